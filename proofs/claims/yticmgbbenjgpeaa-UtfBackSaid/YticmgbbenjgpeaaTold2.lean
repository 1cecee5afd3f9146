/-
  told: what an iterator tells, in two slices of the call's own; the first ones, if one asks for so many.
-/
import Derived.Test.YticmgbbenjgpeaaTold
import Derived.Deep.QuietTactic
import Derived.BigQuiet
namespace Go.Proofs.Yticmgbbenjgpeaa
open Go.RowKit Go.Shelf
attribute [local go_sem] Oper.semAt_some

def placeV (x : Ru) : Value := .int .i64 (x.1.1 : Int)
def charV (x : Ru) : Value := .int .i64 (x.1.2 : Int)
/-- Between two rounds. -/
structure TwoI (w : World) (stop : Int) (pre : List Ru) (W : World) : Prop where
  rows : ∃ v1 v2, Boxed W (w.heap.size + 1) 25 v1 ∧ Boxed W (w.heap.size + 2) 25 v2 ∧ W.ownsRow (w.heap.size + 1) 3 1 v1 pre.length (pre.map placeV) ∧ W.ownsRow (w.heap.size + 1) 3 1 v2 pre.length (pre.map charV) ∧ (∀ g, v1.ownBlock = some g → v2.ownBlock ≠ some g)
  stop : Boxed W w.heap.size 3 (.int .i64 stop)
  below : Below w.heap.size w W
theorem twoI_own (w : World) (stop : Int) (B : Nat) (hB : w.heap.size ≤ B) : OwnFrom B (TwoI w stop) := by
  intro pre W W' row h hg hr
  have hno : ∀ {n : Nat} {t : TypeId} {v : Value}, Boxed W n t v → some n ≠ row := fun {n t v} hb e => by
    obtain ⟨_, o, ho, hc⟩ := hr n e.symm
    rw [show W.heap[n]? = _ from hb] at ho; cases ho; cases hc
  have hrow : ∀ {b : Nat} {e : TypeId} {s : Nat} {v : Value} {n : Nat} {xs : List Value}, W.ownsRow b e s v n xs → W'.ownsRow b e s v n xs := fun {b e s v n xs} ho => own_far ho hg (fun g eg ev => by
    obtain ⟨_, o, hh, hc⟩ := hr g eg
    rw [own_cells ho g o ev hh] at hc; cases hc)
  obtain ⟨v1, v2, h1, h2, h3, h4, h5⟩ := h.rows
  exact ⟨⟨v1, v2, h1.kept hg (hno h1), h2.kept hg (hno h2), hrow h3, hrow h4, h5⟩, h.stop.kept hg (hno h.stop), h.below.grown hg h.below.size (fun k e => Nat.le_trans hB (hr k e).1)⟩

theorem own_mono {W : World} {b b' : Nat} {e : TypeId} {s : Nat} {v : Value} {n : Nat} {xs : List Value} (h : W.ownsRow b e s v n xs) (hb : b' ≤ b) : W.ownsRow b' e s v n xs := by
  refine ⟨h.1, ?_⟩
  rcases h.2 with h' | ⟨g, cap, cur, h1, h2, h3⟩
  · exact .inl h'
  · exact .inr ⟨g, cap, cur, h1, Nat.le_trans hb h2, h3⟩
/-- What told hands back. -/
def Tells (S Sp : List Ru → Prop) (stop : Int) (w : World) (e : Ending) (W' : World) : Prop :=
  ∃ v1 v2 xs, e = .returned (.tuple #[v1, v2]) ∧ (S xs ∧ (stop ≤ 0 ∨ (xs.length : Int) < stop) ∨ Sp xs ∧ 0 < stop ∧ (xs.length : Int) = stop) ∧
    W'.ownsRow w.heap.size 3 1 v1 xs.length (xs.map placeV) ∧ W'.ownsRow w.heap.size 3 1 v2 xs.length (xs.map charV) ∧ Below w.heap.size w W'

set_option maxRecDepth 100000 in
set_option maxHeartbeats 4000000 in
theorem told_in (n : Nat) (hn : 3 ≤ n) (gf : FuncId) (lb : Array Value) (stop : Int) (w : World) (Kp : World → World → Prop) (S Sp : List Ru → Prop) (N : Nat) (hN : N ≤ 1000000)
    (eg : ∀ args w, (callFunc gf args).run Try.prog w = .ok (.enter gf args) w)
    (hseq : SeqStopsK Fence.wide (n - 1) Try.prog gf lb (fun x : Ru => #[.int .i64 (x.1.1 : Int), .int .i64 (x.1.2 : Int)]) Kp S Sp N w)
    (hKt : ∀ {A B C : World}, Kp A B → Kp B C → Kp A C) (hKb : ∀ (W : World) (l : Nat) (o o' : Obj), w.heap.size ≤ l → W.heap[l]? = some o → o.isCells = false → o.isWalk = false → Kp W (W.putObj l o')) (hKp : ∀ A B : World, Below w.heap.size A B → Kp A B) :
    CallsIn Fence.wide n Try.prog 23 #[.func (.func gf) #[] lb, .int .i64 stop] w (Tells S Sp stop w) := by
  have h1 : 1 ≤ n := by omega
  refine callsIn_of_wp_marks Try.func23 rfl trivial ?_ rfl
  simp only [Try.ntmps23, List.size_toArray, List.length_cons, List.length_nil, Nat.reduceAdd, Nat.reduceSub, Array.replicate_succ, Array.replicate_zero, List.push_toArray, List.append_toArray, List.nil_append, List.cons_append]
  gi_wp2_with fail
  have bS := Boxed.new w 3 (.int .i64 stop)
  have b1 := Boxed.new (w.alloc (.cells #[.int .i64 stop] 3)) 25 (.slice none 0 0)
  have b2 := Boxed.new ((w.alloc (.cells #[.int .i64 stop] 3)).alloc (.cells #[.slice none 0 0] 25)) 25 (.slice none 0 0)
  rw [World.size_alloc] at b1
  rw [World.size_alloc, World.size_alloc] at b2
  have hB0 : Below w.heap.size w (((w.alloc (.cells #[.int .i64 stop] 3)).alloc (.cells #[.slice none 0 0] 25)).alloc (.cells #[.slice none 0 0] 25)) := (((Below.refl _ w).alloc (Nat.le_refl _) _).alloc (by simp) _).alloc (by simp; omega) _
  have hI0 : TwoI w stop [] (((w.alloc (.cells #[.int .i64 stop] 3)).alloc (.cells #[.slice none 0 0] 25)).alloc (.cells #[.slice none 0 0] 25)) :=
    ⟨⟨_, _, b1.alloc _, b2, World.ownsRow_nil _ _ _ _, World.ownsRow_nil _ _ _ _, fun g e => by cases e⟩, (bS.alloc _).alloc _, hB0⟩
  refine wpIn_rangeFunc_ownG rfl h1 (gf := gf) (lb := lb) rfl trivial eg hseq hKt (fun W l o o' hl => hKb W l o o' (by simp at hl; omega)) hB0 (fun _ => rfl)
    (fun pre W => TwoI w stop pre W ∧ (stop ≤ 0 ∨ (pre.length : Int) < stop))
    (fun c pre W => c = .exit 0 ∧ TwoI w stop pre W ∧ 0 < stop ∧ (pre.length : Int) = stop)
    (OwnFrom.and (twoI_own w stop _ (by simp; omega)) (ownFrom_pure _ _))
    (fun c => OwnFrom.and (ownFrom_pure _ (fun _ => c = .exit 0)) (OwnFrom.and (twoI_own w stop _ (by simp; omega)) (ownFrom_pure _ _)))
    ⟨hI0, by simp; omega⟩
    (fun x => { tmps := #[.func (.func gf) #[] lb, .int .i64 stop, undef, .pointer (some ⟨w.heap.size, 0, none⟩), .slice none 0 0, .slice none 0 0, .pointer (some ⟨w.heap.size + 1, 0, none⟩), .pointer (some ⟨w.heap.size + 2, 0, none⟩), .int .i64 x.1.1, .int .i64 x.1.2, .func (.func gf) #[] lb, .int .i64 x.1.1, .int .i64 x.1.2, undef, undef, undef, undef, undef, undef, undef, undef, undef, undef, undef, undef, undef, undef], defers := [] }) ?assign ?body ?done ?stop
  case assign =>
    intro l x W K hK
    gi_wp2
    simpa using hK
  case body =>
    rintro l pre x W ⟨hI, hs⟩ hl
    obtain ⟨v1, v2, hb1, hb2, ho1, ho2, hne⟩ := hI.rows
    have hp : pre.length ≤ 1000000 := by omega
    have hT0 : Two (w.heap.size + 1) W W (w.heap.size + 1) (w.heap.size + 2) 25 25 3 3 1 1 v1 v2 v1 v2 pre.length pre.length (pre.map placeV) (pre.map charV) :=
      ⟨hb1, hb2, ho1, ho2, hne, KeepsOthers.refl W, Below.refl _ W, by omega, by omega, by omega, by have := hb1.lt; omega⟩
    gi_wp2_with fail
    refine round_two _ _ _ _ _ _ _ _ v1 v2 pre.length (pre.map placeV) (pre.map charV) _ _ _ _ _ _ _ _ _ _ _ _ _ _ _ _ _ hT0 hp ?_
    intro x15 x19 g1 c1 g2 c2 W' hT
    have hbox : Boxed W' w.heap.size 3 (.int .i64 stop) := (hT.bel.block w.heap.size (by omega)).trans hI.stop
    have hI' : TwoI w stop (pre ++ [x]) W' := by
      have e1 : (pre ++ [x]).length = pre.length + 1 := by simp
      have e2 : (pre ++ [x]).map placeV = pre.map placeV ++ [.int .i64 (x.1.1 : Int)] := by simp [placeV]
      have e3 : (pre ++ [x]).map charV = pre.map charV ++ [.int .i64 (x.1.2 : Int)] := by simp [charV]
      refine ⟨⟨_, _, hT.b1, hT.b2, ?_, ?_, hT.ne⟩, hbox, hI.below.trans (hT.bel.mono (by omega))⟩
      · rw [e1, e2]; exact hT.o1
      · rw [e1, e3]; exact hT.o2
    have hc2 := hT.b2.cell
    have hc0 := hbox.cell
    have hlen : ((pre ++ [x]).length : Int) = (pre.length : Int) + 1 := by simp
    by_cases hst : (pre.length : Int) + 1 = stop
    · gi_wp2_with fail
      exact ⟨hT.oth.from _, rfl, hI', by omega, by rw [hlen]; exact hst⟩
    · gi_wp2_with fail
      exact ⟨hT.oth.from _, hKp _ _ (hT.bel.mono (by omega)), hI', by rw [hlen]; omega⟩
  case done =>
    rintro D ys W hD hys ⟨hI, hs⟩ hK
    obtain ⟨v1, v2, hb1, hb2, ho1, ho2, hne⟩ := hI.rows
    have hc1 := hb1.cell
    have hc2 := hb2.cell
    gi_wp2_with fail
    refine wpIn_wide.2 ?_
    go_quiet (fail)
    gi_wp2
    have hK' : (W.drewN nq).heap[D]? = some (.deferred (some [])) := by simpa using hK
    have hB' : Below w.heap.size w (W.drewN nq) := below_drewN hI.below nq
    have hr1 : (W.drewN nq).ownsRow w.heap.size 3 1 v1 ys.length (ys.map placeV) := own_mono (b := w.heap.size + 1) ho1 (by omega)
    have hr2 : (W.drewN nq).ownsRow w.heap.size 3 1 v2 ys.length (ys.map charV) := own_mono (b := w.heap.size + 1) ho2 (by omega)
    refine ⟨by simp, .inl ⟨_, _, rfl, run_takeDeferred hK', ?_⟩⟩
    refine ⟨.tuple #[v1, v2], ?_, v1, v2, ys, rfl, .inl ⟨hys, hs⟩, ownsRow_putObj hr1 _ hK' rfl, ownsRow_putObj hr2 _ hK' rfl, hB'.trans (belowK_b (w := w) (Nat.le_refl _) _ D _ _ (by simp at hD; omega) hK' rfl rfl)⟩
    simp [results, Try.f23, go_sem]
  case stop =>
    rintro D c pre W hD hpre ⟨rfl, hI, hs, hs'⟩ hK
    obtain ⟨v1, v2, hb1, hb2, ho1, ho2, hne⟩ := hI.rows
    have hc1 := hb1.cell
    have hc2 := hb2.cell
    gi_wp2_with fail
    refine wpIn_wide.2 ?_
    go_quiet (fail)
    gi_wp2
    have hK' : (W.drewN nq).heap[D]? = some (.deferred (some [])) := by simpa using hK
    have hB' : Below w.heap.size w (W.drewN nq) := below_drewN hI.below nq
    have hr1 : (W.drewN nq).ownsRow w.heap.size 3 1 v1 pre.length (pre.map placeV) := own_mono (b := w.heap.size + 1) ho1 (by omega)
    have hr2 : (W.drewN nq).ownsRow w.heap.size 3 1 v2 pre.length (pre.map charV) := own_mono (b := w.heap.size + 1) ho2 (by omega)
    refine ⟨by simp, .inl ⟨_, _, rfl, run_takeDeferred hK', ?_⟩⟩
    refine ⟨.tuple #[v1, v2], ?_, v1, v2, pre, rfl, .inr ⟨hpre, hs, hs'⟩, ownsRow_putObj hr1 _ hK' rfl, ownsRow_putObj hr2 _ hK' rfl, hB'.trans (belowK_b (w := w) (Nat.le_refl _) _ D _ _ (by simp at hD; omega) hK' rfl rfl)⟩
    simp [results, Try.f23, go_sem]
end Go.Proofs.Yticmgbbenjgpeaa
