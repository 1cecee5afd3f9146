/-
  Law 5: reasons, lists of reasons; blocks known whole; what a world keeps.
-/
import Derived.RangeFuncNested
import Derived.RangeFuncBound
import Derived.RangeFuncCalls
import Derived.RangeFuncLeaves
import Derived.RangeFuncBox
import Derived.Shelf.Abstract
import Derived.Shelf.RegionOpen
import Derived.OwnWalkIn
import Derived.TacticsInMore
import Derived.LoopNIn
import Derived.LoopIn
import Derived.Scope
import Derived.ControlIn
import Derived.WalkMore
import Derived.Test.YtinkdjplehaibaaDoorProg
import Derived.Test.YtinkdjplehaibaaDoorStill
import Derived.Maps.AppendAt
import Derived.Lib.Hide
import Derived.ProofKit
import Derived.Deep.Slices
import Derived.Deep.Fields
namespace Go.Proofs.YtinkdjplehaibaaDoor
open Go.RowKit Go.Shelf
attribute [local go_sem] Oper.semAt_some
theorem wpIn_scope {n : Nat} {P : Program} {c : Code} {Q : Exit → Act → World → Prop} {a : Act} {w : World} (h : c.wpIn Fence.wide n P (Exit.noGoto Q) a w) : (Code.scope c).wpIn Fence.wide n P Q a w :=
  wpIn_wide.2 (wp_scope_straight (wpIn_wide.1 h))
theorem grown_below {B : Nat} {W W' : World} (h : Below B W W') (hB : W.heap.size ≤ B) : W.grownBy W' none := ⟨h.os, h.tape, h.output, h.size, fun i hi _ => h.block i (by omega)⟩
theorem abides_below {β : Type} {B : Nat} {J : β → World → Prop} (h : AbidesFrom B J) {x : β} {W W' : World} (hj : J x W) (hb : Below W.heap.size W W') : J x W' :=
  h x W W' none hj (grown_below hb (Nat.le_refl _)) (fun r e => by cases e)
/-- The block g is just the cells cs. -/
def Blk (W : World) (g : Nat) (t : TypeId) (cs : Array Value) : Prop := W.heap[g]? = some (.cells cs t (0, 0))
section
variable {w w' : World} {g : Nat} {t : TypeId} {cs : Array Value}
theorem Blk.lt (h : Blk w g t cs) : g < w.heap.size := (Array.getElem?_eq_some_iff.1 h).1
theorem Blk.cell (h : Blk w g t cs) (i : Nat) : w.cell? ⟨g, i, none⟩ = cs[i]? := cell_of_row w g i cs t (0, 0) h
theorem Blk.frozen (h : Blk w g t cs) (i : Nat) : w.frozen? ⟨g, i, none⟩ = false := by
  unfold Blk at h
  simp [World.frozen?, h]
theorem Blk.new (w : World) (t : TypeId) (cs : Array Value) : Blk (w.alloc (.cells cs t)) w.heap.size t cs := World.alloc_heap_new w _
theorem Blk.kept {row : Option Nat} (h : Blk w g t cs) (hb : w.grownBy w' row) (hg : some g ≠ row) : Blk w' g t cs := (hb.block g h.lt hg).trans h
theorem Blk.alloc (h : Blk w g t cs) (o : Obj) : Blk (w.alloc o) g t cs := h.kept (World.grownBy_alloc w o none) (by simp)
theorem Blk.far (h : Blk w g t cs) {p : Addr} (hp : g ≠ p.block) (u : Value) : Blk (w.setCell p u) g t cs := (Below.heap_setCell w p u g hp).trans h
theorem Blk.set_ (h : Blk w g t cs) (i : Nat) (u : Value) : Blk (w.setCell ⟨g, i, none⟩ u) g t (cs.setIfInBounds i u) := by
  unfold Blk at h ⊢
  simp [World.setCell, Array.getElem?_modify, h]
theorem Blk.below {B : Nat} (h : Blk w g t cs) (hb : Below B w w') (hg : g < B) : Blk w' g t cs := (hb.block g hg).trans h
theorem blk_own {β : Type} (g : Nat) (t : TypeId) (cs : Array Value) : Own (fun (_ : β) W => Blk W g t cs) := fun s X Y row h hg hrow => h.kept hg (fun e => by
  obtain ⟨o, ho, hc⟩ := hrow g e.symm
  rw [show X.heap[g]? = _ from h] at ho; cases ho; cases hc)
end
theorem blk_app {W w3 : World} {g : Nat} {t E : TypeId} {cs : Array Value} {n0 size k : Nat} {v : Value} {xs : List Value} {tmp : Obj} (h : Blk W g t cs) (hte : t ≠ E) (hrow : W.ownsRow n0 E size v k xs) (hg : (W.alloc tmp).grownBy w3 v.ownBlock) (B : Nat) (hne : g ≠ B) (u : Value) : Blk (w3.setCell ⟨B, 0, none⟩ u) g t cs := by
  refine ((h.alloc tmp).kept hg ?_).far (p := ⟨B, 0, none⟩) hne u
  rcases hrow.2 with ⟨rfl, _⟩ | ⟨g', cap, cur, rfl, _, hgb, _⟩
  · simp [Value.ownBlock]
  · intro e'
    obtain rfl : g = g' := by simpa [Value.ownBlock] using e'
    have := (show W.heap[g]? = _ from h).symm.trans hgb
    simp at this
    exact hte this.2
theorem Blk.putD {W : World} {g : Nat} {t : TypeId} {cs : Array Value} {D : Nat} {o o' : Obj} (h : Blk W g t cs) (hD : W.heap[D]? = some o) (ho : o.isCells = false) : Blk (W.putObj D o') g t cs := h.kept (grownBy_putObj' W D o') (fun e => by
  cases e
  rw [show W.heap[g]? = _ from h] at hD
  cases hD
  cases ho)
theorem own_set {W : World} {b : Nat} {e : TypeId} {z : Nat} {v : Value} {n : Nat} {xs : List Value} (h : W.ownsRow b e z v n xs) {g : Nat} {t : TypeId} {cs : Array Value} (hg : Blk W g t cs) (hte : t ≠ e) (i : Nat) (u : Value) : (W.setCell ⟨g, i, none⟩ u).ownsRow b e z v n xs := by
  have hgr : W.grownBy (W.setCell ⟨g, i, none⟩ u) (some g) := ⟨rfl, rfl, rfl, by simp, fun k _ hk => Below.heap_setCell _ _ _ k (fun e => hk (by rw [e]))⟩
  refine h.kept hgr ?_
  rcases h.2 with ⟨rfl, _⟩ | ⟨g', cap, cur, rfl, _, hgb, _⟩
  · exact .inl rfl
  · refine .inr fun e' => ?_
    obtain rfl : g' = g := by simpa [Value.ownBlock] using e'
    have := (show W.heap[g']? = _ from hg).symm.trans hgb
    simp at this
    exact hte this.2
theorem dcells {w : World} {g : Nat} {t : TypeId} {a b c : Value} (h : Blk w g t #[a, b, c]) : w.cell? ⟨g, 0, none⟩ = some a ∧ w.cell? ⟨g, 1, none⟩ = some b ∧ w.cell? ⟨g, 2, none⟩ = some c :=
  ⟨h.cell 0, h.cell 1, h.cell 2⟩
theorem Tryd.infoD : (Tryd.prog.info? 40).map (fun i => (i.zero, i.size, i.bytes)) = some (some (.agg #[.int .i64 0, .int .i64 0, .string ⟨#[]⟩]), 3, 32) := by kernel_rfl
theorem Tryd.infoI : (Tryd.prog.info? 3).map (fun i => (i.zero, i.size, i.bytes)) = some (some (.int .i64 0), 1, 8) := by kernel_rfl
/-- A reason. -/
structure Dg where
  code : Int
  at_ : Int
  what : ByteArray
def Dg.cells (d : Dg) : List Value := [.int .i64 d.code, .int .i64 d.at_, .string d.what]
def Dg.V (d : Dg) : Value := .agg #[.int .i64 d.code, .int .i64 d.at_, .string d.what]
def dgs (l : List Dg) : List Value := l.flatMap Dg.cells
theorem dgs_snoc (l : List Dg) (d : Dg) : dgs (l ++ [d]) = dgs l ++ d.cells := by simp [dgs]
theorem dgs_len (l : List Dg) : (dgs l).length = l.length * 3 := by
  induction l with
  | nil => rfl
  | cons d r ih => simp only [dgs, List.flatMap_cons, List.length_append, List.length_cons] at ih ⊢; rw [ih]; simp [Dg.cells]; omega
theorem dgs_one (l : List Dg) : ∀ u ∈ dgs l, u.oneCell' = true := by
  intro u hu
  obtain ⟨d, _, hd⟩ := List.mem_flatMap.1 hu
  simp [Dg.cells] at hd
  rcases hd with rfl | rfl | rfl <;> rfl
theorem dgs_at : ∀ (l : List Dg) (i : Nat) (d : Dg), l[i]? = some d → ∀ j, j < 3 → (dgs l)[i * 3 + j]? = d.cells[j]? := by
  intro l
  induction l with
  | nil => intro i d h; simp at h
  | cons x r ih =>
    intro i d h j hj
    have e : dgs (x :: r) = x.cells ++ dgs r := by simp [dgs]
    rw [e]
    cases i with
    | zero =>
      simp at h; subst h
      rw [List.getElem?_append_left (by simp [Dg.cells]; omega)]; simp
    | succ i =>
      simp at h
      rw [List.getElem?_append_right (by simp [Dg.cells]; omega), ← ih i d h j hj]
      congr 1
      simp [Dg.cells]; omega
/-- The row at the value v holds the reasons l, wherever it lies. -/
def DR (w : World) (v : Value) (l : List Dg) : Prop :=
  ∃ a c, v = .slice a l.length c ∧ ∀ i d, l[i]? = some d → ∃ ad, a = some ad ∧ ad.block < w.heap.size ∧ ∀ j u, d.cells[j]? = some u → w.cell? (ad.add (i * 3 + j)) = some u
theorem add_block (a : Addr) (i : Nat) : (a.add i).block = a.block := by unfold Addr.add; split <;> rfl
theorem DR.below {w w' : World} {v : Value} {l : List Dg} {B : Nat} (h : DR w v l) (hb : Below B w w') (hB : w.heap.size ≤ B) : DR w' v l := by
  obtain ⟨a, c, hv, h⟩ := h
  refine ⟨a, c, hv, fun i d hd => ?_⟩
  obtain ⟨ad, ha, hlt, hc⟩ := h i d hd
  exact ⟨ad, ha, Nat.lt_of_lt_of_le hlt hb.size, fun j u hu => (hb.cell (by rw [add_block]; omega)).trans (hc j u hu)⟩
theorem add_pos' (p : Addr) (j : Nat) (hj : j ≠ 0) : p.add j = ⟨p.block, p.off + j, none⟩ := by unfold Addr.add; rw [if_neg hj]
/-- The three cells of a reason, as the walk spells them. -/
def C3 (w : World) (x : Addr) (d : Dg) : Prop := w.cell? x = some (.int .i64 d.code) ∧ w.cell? ⟨x.block, x.off + 1, none⟩ = some (.int .i64 d.at_) ∧ w.cell? ⟨x.block, x.off + 2, none⟩ = some (.string d.what)
theorem c3_of {w : World} {ad : Addr} {i : Nat} {d : Dg} (hc : ∀ j u, d.cells[j]? = some u → w.cell? (ad.add (i * 3 + j)) = some u) : C3 w (ad.add (i * 3)) d := by
  have c0 := hc 0 _ rfl; have c1 := hc 1 _ rfl; have c2 := hc 2 _ rfl
  simp only [Nat.add_zero] at c0
  rw [← Deep.add_add, add_pos' _ _ (by omega)] at c1 c2
  exact ⟨c0, c1, c2⟩
theorem dr_row {w : World} {b : Nat} {v : Value} {l : List Dg} (h : w.ownsRow b 40 3 v l.length (dgs l)) : DR w v l := by
  rcases h.2 with ⟨rfl, h0⟩ | ⟨g, cap, cur, rfl, hbg, hg, hnc, _, hsz, htk⟩
  · have : l = [] := List.eq_nil_of_length_eq_zero h0
    subst this
    exact ⟨none, 0, rfl, fun i d hd => by simp at hd⟩
  · refine ⟨_, _, rfl, fun i d hd => ⟨_, rfl, (Array.getElem?_eq_some_iff.1 hg).1, fun j u hu => ?_⟩⟩
    have hi : i < l.length := (List.getElem?_eq_some_iff.1 hd).1
    have hj : j < 3 := (List.getElem?_eq_some_iff.1 hu).1
    have e1 := dgs_at l i d hd j hj
    rw [hu, ← htk, List.getElem?_take, if_pos (by omega)] at e1
    have e2 : (⟨g, 0, none⟩ : Addr).add (i * 3 + j) = ⟨g, i * 3 + j, none⟩ := by unfold Addr.add; split <;> simp_all
    rw [e2, cell_of_row w g (i * 3 + j) cur 40 (0, 0) hg, ← Array.getElem?_toList]
    exact e1
/-- What a list has behind one more. -/
def dadd (ds : List Dg) (c a : Int) (s : ByteArray) : List Dg := if c = 0 ∨ 100 ≤ ds.length then ds else ds ++ [⟨c, max a 0, s.extract 0 (min s.size 60)⟩]
theorem dadd_len (ds : List Dg) (c a : Int) (s : ByteArray) (h : ds.length ≤ 100) : (dadd ds c a s).length ≤ 100 := by
  unfold dadd; split
  · exact h
  · rename_i hn; simp; omega
/-- The list at the block x has the reasons ds; its row lies from n0 on. -/
def IsL (n0 : Nat) (w : World) (x : Nat) (ds : List Dg) : Prop :=
  n0 ≤ x ∧ ds.length ≤ 100 ∧ ∃ v, Boxed w x 27 v ∧ w.ownsRow n0 40 3 v ds.length (dgs ds)
theorem IsL.lt {n0 : Nat} {w : World} {x : Nat} {ds : List Dg} (h : IsL n0 w x ds) : x < w.heap.size := by
  obtain ⟨_, _, v, hb, _⟩ := h; exact hb.lt
theorem IsL.kept {n0 : Nat} {w w' : World} {x : Nat} {ds : List Dg} (h : IsL n0 w x ds) (hb : Below w.heap.size w w') : IsL n0 w' x ds := by
  obtain ⟨h1, h2, v, h3, h4⟩ := h
  have hg : w.grownBy w' none := grown_below hb (Nat.le_refl _)
  refine ⟨h1, h2, v, h3.kept hg (by simp), h4.kept hg ?_⟩
  rcases h4.2 with ⟨rfl, _⟩ | ⟨g, _, _, rfl, _⟩
  · exact .inl rfl
  · exact .inr (by simp [Value.ownBlock])
end Go.Proofs.YtinkdjplehaibaaDoor
