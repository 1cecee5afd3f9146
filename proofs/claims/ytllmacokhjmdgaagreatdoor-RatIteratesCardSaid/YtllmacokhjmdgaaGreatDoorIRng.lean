/-
 Law 2: a loop over a function whose iterator says, at its end, what lies in memory of the things that it told, and counts in a box of its caller's.
-/
import Derived.Test.YtllmacokhjmdgaaGreatDoorRQf
import Derived.RangeFuncBound
import Derived.RangeFuncCalls
import Derived.RangeFuncLeaves
import Derived.Shelf.Abstract
import Derived.Shelf.RegionOpen
import Derived.OwnWalkIn
import Derived.TacticsInMore
import Derived.LoopNIn
import Derived.LoopIn
import Derived.WalkSmall
import Derived.Scope
import Derived.ControlIn
import Derived.WalkMore
namespace Go.Proofs.YtllmacokhjmdgaaGreatDoor
open Go.RowKit Go.Shelf
set_option linter.unusedVariables false
/-- The iterator's word: S and Sp speak of the world at its end; a round keeps Kp whether it goes on or stops. -/
def Told {α : Type} (F : Fence) (n : Nat) (P : Program) (g : Nat) (lb : Array Value) (encs : α → Array Value) (Kp : World → World → Prop) (Tb : Nat) (Od : List α → α → Prop) (S Sp : List α → World → Prop) (N : Nat) (w : World) : Prop :=
 ∀ (l : Nat) (J Jx : List α → World → Prop) (W : World), Below w.heap.size w W → AbidesFrom W.heap.size J → (∀ pre W1 (z : Int), J pre W1 → J pre (W1.setCell ⟨Tb, 0, none⟩ (.int .i64 z))) →
  (∀ pre x W1, J pre W1 → pre.length < N → Od pre x → YieldAt F (n - 1) P l (encs x) W1 fun e W' =>
   Kp W1 W' ∧ ((e = .returned (.bool true) ∧ J (pre ++ [x]) W') ∨ (e = .returned (.bool false) ∧ Jx (pre ++ [x]) W'))) →
  J [] W →
  CallsIn F n P g (#[.func (.yield l) #[] #[]] ++ lb) W fun e W' => (∃ v, e = .returned v) ∧ ∃ xs, (S xs W' ∧ J xs W') ∨ (Sp xs W' ∧ Jx xs W')
/-- How a round's body may be left. -/
def toldPost {α : Type} (B : Nat) (Kp : World → World → Prop) (I : List α → World → Prop) (Ix : Code → List α → World → Prop) (xs : List α) (W : World) (e : Exit) (a : Act) (W' : World) : Prop :=
 (KeepsFrom B W W' ∧ Kp W W') ∧ match e with
  | .normal => I xs W'
  | .ret => Ix .ret xs W'
  | .exit id => Ix (.exit id) xs W'
  | .goto t => Ix (.goto t) xs W'
  | .panic _ => False
  | .outgrown => False
/-- The two blocks of a loop's book-keeping. -/
structure Bk (D : Nat) (r : Loop) (W : World) : Prop where
 rc : W.heap[D + 1]? = some (.loop r)
 defs : W.heap[D]? = some (.deferred (some []))
theorem Bk.keeps {D : Nat} {r : Loop} {W W' : World} (h : Bk D r W) (hk : KeepsFrom D W W') : Bk D r W' := ⟨hk.same _ _ (by omega) h.rc rfl, hk.same _ _ (Nat.le_refl _) h.defs rfl⟩
theorem Bk.abides {D : Nat} {r : Loop} {W W' : World} {row : Option Nat} (h : Bk D r W) (hg : W.grownBy W' row) (hr : ∀ k, row = some k → ∃ o : Obj, W.heap[k]? = some o ∧ o.isWalk = true) : Bk D r W' :=
 ⟨(grownBy_keeps hg hr h.rc rfl).trans h.rc, (grownBy_keeps hg hr h.defs rfl).trans h.defs⟩
theorem Bk.far {D : Nat} {r : Loop} {W : World} (h : Bk D r W) {Tb : Nat} (hT : Tb < D) (u : Value) : Bk D r (W.setCell ⟨Tb, 0, none⟩ u) :=
 ⟨(Below.heap_setCell W ⟨Tb, 0, none⟩ u (D + 1) (by show D + 1 ≠ Tb; omega)).trans h.rc, (Below.heap_setCell W ⟨Tb, 0, none⟩ u D (by show D ≠ Tb; omega)).trans h.defs⟩
theorem Bk.put {D : Nat} {r : Loop} {W : World} (h : Bk D r W) (r' : Loop) : Bk D r' (W.putObj (D + 1) (.loop r')) :=
 ⟨World.putObj_heap_same (Array.getElem?_eq_some_iff.1 h.rc).1, (World.putObj_heap_other (by omega)).trans h.defs⟩
theorem wpIn_range_told {α : Type} {F : Fence} {n : Nat} {P : Program} {g : Operand} {ps : Array Tmp} {assign body : Code} {Q : Exit → Act → World → Prop} {a : Act} {w : World}
 (hro : F.round = none) (h1 : 1 ≤ n) {gf : Nat} {lb : Array Value} (hg : a.eval g = .func (.func gf) #[] lb) (hFg : F.fn gf) (eg : ∀ args w, (callFunc gf args).run P w = .ok (.enter gf args) w)
 {encs : α → Array Value} {Kp : World → World → Prop} {Tb : Nat} (hTb : Tb < w.heap.size) {Od : List α → α → Prop} {S Sp : List α → World → Prop} {N : Nat} (hseq : Told F (n - 1) P gf lb encs Kp Tb Od S Sp N w)
 (hKt : ∀ {A B C : World}, Kp A B → Kp B C → Kp A C) (hKb : ∀ (W : World) (l : Nat) (o o' : Obj), w.heap.size ≤ l → W.heap[l]? = some o → o.isCells = false → o.isWalk = false → Kp W (W.putObj l o')) (hps : ∀ x, (encs x).size = ps.size)
 (I : List α → World → Prop) (Ix : Code → List α → World → Prop) (hI : OwnFrom w.heap.size I) (hIt : ∀ pre W (z : Int), I pre W → I pre (W.setCell ⟨Tb, 0, none⟩ (.int .i64 z))) (hIx : ∀ c, OwnFrom w.heap.size (Ix c)) (hS : OwnFrom w.heap.size S) (hSp : OwnFrom w.heap.size Sp) (h0 : I [] w)
 (Ax : α → Act → World → Prop) (hAx : ∀ x a', OwnFrom w.heap.size (fun (_ : Unit) W => Ax x a' W))
 (hassign : ∀ (l : Nat) (pre : List α) (x : α) (W : World) (K : Act → World → Prop), I pre W → (∀ a' W', KeepsFrom w.heap.size W W' → Kp W W' → I pre W' → Ax x a' W' → K a' W') →
  assign.wpIn (F.inRound l) (n - 1 - 1) P (Exit.then K (fun _ _ _ => False)) { tmps := (ps.zip (encs x)).foldl (fun t (p, v) => t.setIfInBounds p v) a.tmps, defers := [] } W)
 (hbody : ∀ (l : Nat) (pre : List α) (x : α) (a' : Act) (W : World), w.heap.size ≤ l → (∃ r, W.heap[l]? = some (.loop r)) → I pre W → Ax x a' W → pre.length < N → Od pre x → body.wpIn (F.inRound l) (n - 1 - 1) P (toldPost w.heap.size Kp I Ix (pre ++ [x]) W) a' W)
 (hdone : ∀ (D : Nat) (xs : List α) (W : World), w.heap.size ≤ D → S xs W → I xs W → W.heap[D]? = some (.deferred (some [])) → Q .normal { a with defers := { target := .collected D, args := #[] } :: a.defers } W)
 (hstop : ∀ (D : Nat) (c : Code) (pre : List α) (W : World), w.heap.size ≤ D → Sp pre W → Ix c pre W → W.heap[D]? = some (.deferred (some [])) → c.wpIn F n P Q { a with defers := { target := .collected D, args := #[] } :: a.defers } W) :
 (Code.rangeFunc g ps assign body).wpIn F n P Q a w := by
 refine wpIn_rangeFunc fun fn hfn => ?_
 rw [hro]
 let L : LoopState → Option Code → Loop := fun st pe => { state := st, pending := pe, fn, tmps := a.tmps, params := ps, assign, body, defers := w.heap.size }
 obtain ⟨W1, hW1⟩ : ∃ W1, (w.alloc (.deferred (some []))).alloc (.loop (L .ready none)) = W1 := ⟨_, rfl⟩
 have hbk : Bk w.heap.size (L .ready none) W1 := by
  rw [← hW1]
  exact ⟨by have := World.alloc_heap_new (w.alloc (.deferred (some []))) (.loop (L .ready none)); rwa [World.size_alloc] at this, (Below.heap_alloc _ _ _ (by simp)).trans (World.alloc_heap_new w _)⟩
 have hI1 : I [] W1 := by rw [← hW1]; exact hI.alloc _ (hI.alloc _ h0)
 have hb1 : Below w.heap.size w W1 := by rw [← hW1]; exact ((Below.refl _ w).alloc (Nat.le_refl _) _).alloc (by simp) _
 have hz : W1.heap.size = w.heap.size + 2 := by rw [← hW1]; simp
 refine ⟨w.heap.size + 1, [{ target := .collected w.heap.size, args := #[] }], W1, { target := .fn (.func gf) lb, args := #[.func (.yield (w.heap.size + 1)) #[] #[]] }, W1, gf,
  #[.func (.yield (w.heap.size + 1)) #[] #[]] ++ lb, W1, by rw [← hW1]; exact run_enterLoop_outer _ _ _ _ _, ?_, ?_, ?_, fun _ => h1, ?_⟩
 · simp only [resolve, hg]
   simp [go_sem]
 · intro f' hf'
   simp [Target.leads] at hf'
   subst hf'
   exact hFg
 · simp [invoke, go_sem, eg]
 have weak : ∀ {A : World} {row : Option Nat} {B : Nat}, w.heap.size ≤ B → (∀ r, row = some r → B ≤ r ∧ ∃ o : Obj, A.heap[r]? = some o ∧ o.isWalk = true) → (∀ r, row = some r → w.heap.size ≤ r ∧ ∃ o : Obj, A.heap[r]? = some o ∧ o.isCells = false) :=
  fun hB hr r e => by
   obtain ⟨h2, o, ho, hw⟩ := hr r e
   exact ⟨Nat.le_trans hB h2, o, ho, Obj.not_cells_of_walk hw⟩
 refine (hseq (w.heap.size + 1) (fun pre W => I pre W ∧ Bk w.heap.size (L .ready none) W) (fun pre W => ∃ c, Ix c pre W ∧ Bk w.heap.size (L .done (some c)) W) _ hb1
  (fun s A B row hs hg' hr => ⟨hI s A B row hs.1 hg' (weak (by omega) hr), hs.2.abides hg' (fun r e => (hr r e).2)⟩)
  (fun pre W1 z h => ⟨hIt pre W1 z h.1, h.2.far hTb _⟩) ?_ ⟨hI1, hbk⟩).mono ?_
 · rintro pre x W ⟨hi, hb⟩ hlen hod
   refine ⟨fn, _, assign, body, run_yield (P := P) (args := encs x) hb.rc (hps x), roundIn_of_wpIn hfn (hassign _ pre x W _ hi ?_)⟩
   intro a' Wa hkf hkp hia hax
   have hba := hb.keeps hkf
   refine ⟨_, run_beginRound hba.rc rfl, ?_⟩
   have hbb := hba.put (L .busy none)
   have hk2 := hKb Wa (w.heap.size + 1) _ (.loop (L .busy none)) (by omega) hba.rc rfl rfl
   refine wpIn_mono (hbody _ pre x a' _ (by omega) ⟨_, hbb.rc⟩ (hI.putObj _ hia (by omega) hba.rc rfl) ((hAx x a').putObj (s := ()) _ hax (by omega) hba.rc rfl) hlen hod) ?_
   rintro e a3 W3 ⟨⟨hk3, hkp3⟩, hp⟩
   have hb3 := hbb.keeps hk3
   have kp3 : ∀ r', Kp W (W3.putObj (w.heap.size + 1) (.loop r')) := fun r' => hKt hkp (hKt (hKt hk2 hkp3) (hKb _ _ _ _ (by omega) hb3.rc rfl rfl))
   have left : ∀ c, Ix c (pre ++ [x]) W3 → ∃ v W4, (Instr.endRound (w.heap.size + 1) (some c)).run P W3 = .ok v W4 ∧ (Kp W W4 ∧ ((Ending.returned v = .returned (.bool true) ∧ I (pre ++ [x]) W4 ∧ Bk w.heap.size (L .ready none) W4) ∨ (Ending.returned v = .returned (.bool false) ∧ ∃ c, Ix c (pre ++ [x]) W4 ∧ Bk w.heap.size (L .done (some c)) W4))) :=
    fun c hc => ⟨_, _, run_endRound (P := P) (some c) hb3.rc, kp3 _, .inr ⟨rfl, c, (hIx c).putObj _ hc (by omega) hb3.rc rfl, hb3.put _⟩⟩
   cases e with
   | normal => exact ⟨_, _, run_endRound (P := P) none hb3.rc, kp3 _, .inl ⟨rfl, hI.putObj _ hp (by omega) hb3.rc rfl, hb3.put _⟩⟩
   | ret => exact left _ hp
   | exit id => exact left _ hp
   | goto t => exact left _ hp
   | panic ch => exact hp.elim
   | outgrown => exact hp.elim
 · rintro e W2 ⟨⟨v, rfl⟩, xs, ⟨hs, hi, hb⟩ | ⟨hs, c, hi, hb⟩⟩
   · exact ⟨none, _, run_endLoop (P := P) hb.rc (by simp [L]), hdone _ xs _ (Nat.le_refl _) (hS.putObj _ hs (by omega) hb.rc rfl) (hI.putObj _ hi (by omega) hb.rc rfl) ((World.putObj_heap_other (by omega)).trans hb.defs)⟩
   · exact ⟨some c, _, run_endLoop (P := P) hb.rc (by simp [L]), hstop _ c xs _ (Nat.le_refl _) (hSp.putObj _ hs (by omega) hb.rc rfl) ((hIx c).putObj _ hi (by omega) hb.rc rfl) ((World.putObj_heap_other (by omega)).trans hb.defs)⟩
end Go.Proofs.YtllmacokhjmdgaaGreatDoor
