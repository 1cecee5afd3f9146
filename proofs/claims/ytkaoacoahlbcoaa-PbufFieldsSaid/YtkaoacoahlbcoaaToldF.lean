/-
  told of law 10: what the iterator over fields tells, in two slices of the call's own; the first ones, if one asks for so many.
-/
import Derived.Test.YtkaoacoahlbcoaaToldR
namespace Go.Proofs.Ytkaoacoahlbcoaa
open Go.RowKit Go.Shelf
attribute [local go_sem] Oper.semAt_some
def Pt.n0 : Pt → Int | .ok f _ => f.num | .bad _ _ => 0
def Pt.n1 : Pt → Int | .ok f _ => f.kind | .bad _ _ => 0
def Pt.n2 : Pt → Int | .ok _ k => k | .bad _ _ => 0
def Pt.n3 : Pt → Int | .ok f _ => f.val | .bad _ _ => 0
def Pt.n4 : Pt → ByteArray | .ok f _ => f.data | .bad _ _ => ⟨#[]⟩
def Pt.m0 : Pt → Int | .ok _ _ => 0 | .bad c _ => ((c + 1 : Nat) : Int)
def Pt.m1 : Pt → Int | .ok _ _ => 0 | .bad _ k => k
def Pt.fL (x : Pt) : List Value := [.int .i64 x.n0, .int .i64 x.n1, .int .i64 x.n2, .int .u64 x.n3, .string x.n4]
def Pt.dL (x : Pt) : List Value := [.int .i64 x.m0, .int .i64 x.m1, .string ⟨#[]⟩]
theorem args_eq (x : Pt) : Pt.args x = #[.agg #[.int .i64 x.n0, .int .i64 x.n1, .int .i64 x.n2, .int .u64 x.n3, .string x.n4], .agg #[.int .i64 x.m0, .int .i64 x.m1, .string ⟨#[]⟩]] := by cases x <;> rfl
/-- Between two rounds. -/
structure TwoI (w : World) (stop : Int) (pre : List Pt) (W : World) : Prop where
  rows : ∃ v1 v2, Boxed W (w.heap.size + 1) 37 v1 ∧ Boxed W (w.heap.size + 2) 49 v2 ∧ W.ownsRow (w.heap.size + 1) 31 5 v1 pre.length (pre.flatMap Pt.fL) ∧ W.ownsRow (w.heap.size + 1) 39 3 v2 pre.length (pre.flatMap Pt.dL) ∧ (∀ g, v1.ownBlock = some g → v2.ownBlock ≠ some g)
  stop : Boxed W w.heap.size 3 (.int .i64 stop)
  below : Below w.heap.size w W
theorem box_own {n : Nat} {t : TypeId} {v : Value} {B : Nat} {W W' : World} {row : Option Nat} (h : Boxed W n t v) (hg : W.grownBy W' row) (hr : ∀ r, row = some r → B ≤ r ∧ ∃ o, W.heap[r]? = some o ∧ o.isCells = false) : Boxed W' n t v := h.kept hg (fun e => by
  obtain ⟨_, o, ho, hc⟩ := hr n e.symm
  rw [show W.heap[n]? = _ from h] at ho; cases ho; cases hc)
theorem twoI_own (w : World) (stop : Int) (B : Nat) (hB : w.heap.size ≤ B) : OwnFrom B (TwoI w stop) := by
  intro pre W W' row h hg hr
  have hrow : ∀ {b : Nat} {e : TypeId} {s : Nat} {v : Value} {n : Nat} {xs : List Value}, W.ownsRow b e s v n xs → W'.ownsRow b e s v n xs := fun {b e s v n xs} ho => own_far ho hg (fun g eg ev => by
    obtain ⟨_, o, hh, hc⟩ := hr g eg
    rw [own_cells ho g o ev hh] at hc; cases hc)
  obtain ⟨v1, v2, h1, h2, h3, h4, h5⟩ := h.rows
  exact ⟨⟨v1, v2, box_own h1 hg hr, box_own h2 hg hr, hrow h3, hrow h4, h5⟩, box_own h.stop hg hr, h.below.grown hg h.below.size (fun k e => Nat.le_trans hB (hr k e).1)⟩
theorem own_mono {W : World} {b b' : Nat} {e : TypeId} {s : Nat} {v : Value} {n : Nat} {xs : List Value} (h : W.ownsRow b e s v n xs) (hb : b' ≤ b) : W.ownsRow b' e s v n xs := by
  refine ⟨h.1, ?_⟩
  rcases h.2 with h' | ⟨g, cap, cur, h1, h2, h3⟩
  · exact .inl h'
  · exact .inr ⟨g, cap, cur, h1, Nat.le_trans hb h2, h3⟩
/-- What told hands back. -/
def Tells (s : ByteArray) (stop : Int) (w : World) (e : Ending) (W' : World) : Prop :=
  ∃ v1 v2 xs, e = .returned (.tuple #[v1, v2]) ∧ (xs = pall s ∧ (stop ≤ 0 ∨ (xs.length : Int) < stop) ∨ xs <+: pall s ∧ 0 < stop ∧ (xs.length : Int) = stop) ∧
    W'.ownsRow w.heap.size 31 5 v1 xs.length (xs.flatMap Pt.fL) ∧ W'.ownsRow w.heap.size 39 3 v2 xs.length (xs.flatMap Pt.dL) ∧ Below w.heap.size w W'
/-- A round's own variables. -/
def RoundI (w : World) (Bs : Nat) (stop : Int) (x : Pt) (a' : Act) (W : World) : Prop :=
  ∃ Bf Bd v1 v2, Blk W Bf 31 #[.int .i64 x.n0, .int .i64 x.n1, .int .i64 x.n2, .int .u64 x.n3, .string x.n4] ∧ Blk W Bd 39 #[.int .i64 x.m0, .int .i64 x.m1, .string ⟨#[]⟩] ∧
    Boxed W (w.heap.size + 1) 37 v1 ∧ Boxed W (w.heap.size + 2) 49 v2 ∧ v1.ownBlock ≠ some Bf ∧ v1.ownBlock ≠ some Bd ∧ v2.ownBlock ≠ some Bf ∧ v2.ownBlock ≠ some Bd ∧
    a' = { tmps := #[.func (.func 31) #[] #[.pointer (some ⟨Bs, 0, none⟩)], .int .i64 stop, undef, .pointer (some ⟨w.heap.size, 0, none⟩), .slice none 0 0, .slice none 0 0, .pointer (some ⟨w.heap.size + 1, 0, none⟩), .pointer (some ⟨w.heap.size + 2, 0, none⟩), .pointer (some ⟨Bf, 0, none⟩), .pointer (some ⟨Bd, 0, none⟩), .func (.func 31) #[] #[.pointer (some ⟨Bs, 0, none⟩)], .agg #[.int .i64 x.n0, .int .i64 x.n1, .int .i64 x.n2, .int .u64 x.n3, .string x.n4], .agg #[.int .i64 x.m0, .int .i64 x.m1, .string ⟨#[]⟩], undef, undef, undef, undef, undef, undef, undef, undef, undef, undef, undef, undef, undef, undef], defers := [] }
theorem box_uniq {W : World} {B : Nat} {t : TypeId} {v v' : Value} (h : Boxed W B t v) (h' : Boxed W B t v') : v = v' := by
  have := (show W.heap[B]? = _ from h).symm.trans h'
  simpa using this
set_option maxRecDepth 100000 in
set_option maxHeartbeats 8000000 in
theorem told_in (n : Nat) (hn : 4 ≤ n) (Bs : Nat) (s : ByteArray) (hs : s.size ≤ 1000000) (stop : Int) (w : World) (hB : Bs < w.heap.size) (hc : w.cell? ⟨Bs, 0, none⟩ = some (.string s)) :
    CallsIn Fence.wide n Try.prog 24 #[.func (.func 31) #[] #[.pointer (some ⟨Bs, 0, none⟩)], .int .i64 stop] w (Tells s stop w) := by
  have h1 : 1 ≤ n := by omega
  refine callsIn_of_wp_marks Try.func24 rfl trivial ?_ rfl
  simp only [Try.ntmps24, List.size_toArray, List.length_cons, List.length_nil, Nat.reduceAdd, Nat.reduceSub, Array.replicate_succ, Array.replicate_zero, List.push_toArray, List.append_toArray, List.nil_append, List.cons_append]
  gi_wp2_with fail
  have bS := Boxed.new w 3 (.int .i64 stop)
  have b1 := Boxed.new (w.alloc (.cells #[.int .i64 stop] 3)) 37 (.slice none 0 0)
  have b2 := Boxed.new ((w.alloc (.cells #[.int .i64 stop] 3)).alloc (.cells #[.slice none 0 0] 37)) 49 (.slice none 0 0)
  rw [World.size_alloc] at b1
  rw [World.size_alloc, World.size_alloc] at b2
  have hB0 : Below w.heap.size w (((w.alloc (.cells #[.int .i64 stop] 3)).alloc (.cells #[.slice none 0 0] 37)).alloc (.cells #[.slice none 0 0] 49)) := (((Below.refl _ w).alloc (Nat.le_refl _) _).alloc (by simp) _).alloc (by simp; omega) _
  have hI0 : TwoI w stop [] (((w.alloc (.cells #[.int .i64 stop] 3)).alloc (.cells #[.slice none 0 0] 37)).alloc (.cells #[.slice none 0 0] 49)) :=
    ⟨⟨_, _, b1.alloc _, b2, World.ownsRow_nil _ _ _ _, World.ownsRow_nil _ _ _ _, fun g e => by cases e⟩, (bS.alloc _).alloc _, hB0⟩
  have hsz : (((w.alloc (.cells #[.int .i64 stop] 3)).alloc (.cells #[.slice none 0 0] 37)).alloc (.cells #[.slice none 0 0] 49)).heap.size = w.heap.size + 3 := by simp
  obtain ⟨W0, hW0⟩ : ∃ W0, ((w.alloc (.cells #[.int .i64 stop] 3)).alloc (.cells #[.slice none 0 0] 37)).alloc (.cells #[.slice none 0 0] 49) = W0 := ⟨_, rfl⟩
  rw [hW0] at hI0 hB0 hsz ⊢
  have hc0 : W0.cell? ⟨Bs, 0, none⟩ = some (.string s) := (hB0.cell (p := ⟨Bs, 0, none⟩) hB).trans hc
  clear hW0 bS b1 b2
  refine wpIn_rangeFunc_ownH rfl h1 (gf := 31) (lb := #[.pointer (some ⟨Bs, 0, none⟩)]) rfl trivial (enters_of Try.func31 (by kernel_rfl) rfl)
    (each_stops (n - 1) (by omega) Bs s hs W0 (by omega) hc0) KeepCell.trans (fun W l' o o' _ h hc hw => KeepCell.b (n := 0) W l' o o' (by omega) h hc hw) (Below.refl _ _) (fun x => by cases x <;> rfl)
    (fun pre W => TwoI w stop pre W ∧ (stop ≤ 0 ∨ (pre.length : Int) < stop))
    (fun c pre W => c = .exit 0 ∧ TwoI w stop pre W ∧ 0 < stop ∧ (pre.length : Int) = stop)
    (OwnFrom.and (twoI_own w stop _ (by omega)) (ownFrom_pure _ _))
    (fun c => OwnFrom.and (ownFrom_pure _ (fun _ => c = .exit 0)) (OwnFrom.and (twoI_own w stop _ (by omega)) (ownFrom_pure _ _)))
    ⟨hI0, by simp; omega⟩
    (fun x a' W => RoundI w Bs stop x a' W)
    (fun x a' _ X Y row hs hg hr => by
      obtain ⟨Bf, Bd, v1, v2, h1, h2, h3, h4, h5, h6, h7, h8, h9⟩ := hs
      exact ⟨Bf, Bd, v1, v2, blk_own _ _ _ () X Y row h1 hg (fun r e => (hr r e).2), blk_own _ _ _ () X Y row h2 hg (fun r e => (hr r e).2), box_own h3 hg hr, box_own h4 hg hr, h5, h6, h7, h8, h9⟩)
    ?assign ?body ?done ?stop
  case assign =>
    rintro l pre x W K ⟨hI, hst⟩ hK
    have hbw := hI.below
    have hlt := hbw.size
    obtain ⟨v1, v2, hb1, hb2, ho1, ho2, hne⟩ := hI.rows
    have hl1 := hb1.lt
    have hl2 := hb2.lt
    have q1 : ∀ g, v1.ownBlock = some g → g < W.heap.size := fun g e => (own_lt ho1 g e).2
    have q2 : ∀ g, v2.ownBlock = some g → g < W.heap.size := fun g e => (own_lt ho2 g e).2
    rw [args_eq]
    have bf := Blk.new W 31 #[.int .i64 x.n0, .int .i64 x.n1, .int .i64 x.n2, .int .u64 x.n3, .string x.n4]
    have bd := Blk.new (W.alloc (.cells #[.int .i64 x.n0, .int .i64 x.n1, .int .i64 x.n2, .int .u64 x.n3, .string x.n4] 31)) 39 #[.int .i64 x.m0, .int .i64 x.m1, .string ⟨#[]⟩]
    rw [World.size_alloc] at bd
    have HR : Hid (∀ a', a' = _ → RoundI w Bs stop x a' ((W.alloc (.cells #[.int .i64 x.n0, .int .i64 x.n1, .int .i64 x.n2, .int .u64 x.n3, .string x.n4] 31)).alloc (.cells #[.int .i64 x.m0, .int .i64 x.m1, .string ⟨#[]⟩] 39))) := Lib.hid (fun a' ha => ⟨W.heap.size, W.heap.size + 1, v1, v2, bf.alloc _, bd, (hb1.alloc _).alloc _, (hb2.alloc _).alloc _, fun e => by have := q1 _ e; omega, fun e => by have := q1 _ e; omega, fun e => by have := q2 _ e; omega, fun e => by have := q2 _ e; omega, ha⟩)
    have HI := Lib.hid hI
    clear hb1 hb2 ho1 ho2 hne q1 q2 bf bd hI
    gi_wp2
    refine hK _ _ (((KeepsOthers.alloc _ _).trans (KeepsOthers.alloc _ _)).from _) ((KeepCell.alloc _ _).trans (KeepCell.alloc _ _)) ⟨((twoI_own w stop _ (Nat.le_refl _)).alloc _ ((twoI_own w stop _ (Nat.le_refl _)).alloc _ HI.out)), hst⟩ (HR.out _ rfl)
  case body =>
    rintro l pre x a' W hl hrr ⟨hI, hst⟩ ⟨Bf, Bd, u1, u2, bF, bD, bu1, bu2, n18, n19, n28, n29, rfl⟩ hlt
    obtain ⟨v1, v2, hb1, hb2, ho1, ho2, hne⟩ := hI.rows
    obtain rfl := box_uniq bu1 hb1
    obtain rfl := box_uniq bu2 hb2
    have hp : pre.length ≤ 1000000 := by omega
    have hT0 : Two (w.heap.size + 1) W W (w.heap.size + 1) (w.heap.size + 2) 37 49 31 39 5 3 u1 u2 u1 u2 pre.length pre.length (pre.flatMap Pt.fL) (pre.flatMap Pt.dL) :=
      ⟨hb1, hb2, ho1, ho2, hne, KeepsOthers.refl W, Below.refl _ W, by omega, by omega, by omega, by have := hb1.lt; omega⟩
    have HI := Lib.hid hI
    have HF := Lib.hid bF
    have HD := Lib.hid bD
    clear bF bD bu1 bu2 hb1 hb2 ho1 ho2 hne hI
    gi_wp2_with fail
    refine round_two _ _ _ _ _ _ _ _ Bf Bd u1 u2 pre.length (pre.flatMap Pt.fL) (pre.flatMap Pt.dL) x.n0 x.n1 x.n2 x.n3 x.m0 x.m1 x.n4 ⟨#[]⟩ _ _ _ _ _ _ _ _ _ _ _ _ _ _ _ hT0 hp HF.out HD.out n18 n19 n28 n29 ?_
    intro x15 x19 g1 c1 g2 c2 W' hT
    have hbox : Boxed W' w.heap.size 3 (.int .i64 stop) := (hT.bel.block w.heap.size (by omega)).trans HI.out.stop
    have hI' : TwoI w stop (pre ++ [x]) W' := by
      have e1 : (pre ++ [x]).length = pre.length + 1 := by simp
      have e2 : (pre ++ [x]).flatMap Pt.fL = pre.flatMap Pt.fL ++ Pt.fL x := by simp
      have e3 : (pre ++ [x]).flatMap Pt.dL = pre.flatMap Pt.dL ++ Pt.dL x := by simp
      refine ⟨⟨_, _, hT.b1, hT.b2, ?_, ?_, hT.ne⟩, hbox, HI.out.below.trans (hT.bel.mono (by omega))⟩
      · rw [e1, e2]; exact hT.o1
      · rw [e1, e3]; exact hT.o2
    have hc1 := hT.b1.cell
    have hc0' := hbox.cell
    have hlen : ((pre ++ [x]).length : Int) = (pre.length : Int) + 1 := by simp
    have HI' := Lib.hid hI'
    have HT := Lib.hid hT
    clear hI' hT hT0
    by_cases hst2 : (pre.length : Int) + 1 = stop
    · gi_wp2_with fail
      exact ⟨HT.out.oth.from _, rfl, HI'.out, by omega, by rw [hlen]; exact hst2⟩
    · gi_wp2_with fail
      exact ⟨HT.out.oth.from _, KeepCell.below HT.out.bel (by omega), HI'.out, by rw [hlen]; omega⟩
  case done =>
    rintro D ys W hD hys ⟨hI, hst⟩ hK
    obtain ⟨v1, v2, hb1, hb2, ho1, ho2, hne⟩ := hI.rows
    have hc1 := hb1.cell
    have hc2 := hb2.cell
    have HI := Lib.hid hI
    clear hb1 hb2 hI
    gi_wp2_with fail
    refine wpIn_wide.2 ?_
    go_quiet (fail)
    gi_wp2
    have hK' : (W.drewN nq).heap[D]? = some (.deferred (some [])) := by simpa using hK
    have hB' : Below w.heap.size w (W.drewN nq) := below_drewN HI.out.below nq
    have hr1 : (W.drewN nq).ownsRow w.heap.size 31 5 v1 ys.length (ys.flatMap Pt.fL) := own_mono (b := w.heap.size + 1) ho1 (by omega)
    have hr2 : (W.drewN nq).ownsRow w.heap.size 39 3 v2 ys.length (ys.flatMap Pt.dL) := own_mono (b := w.heap.size + 1) ho2 (by omega)
    refine ⟨by simp, .inl ⟨_, _, rfl, run_takeDeferred hK', ?_⟩⟩
    refine ⟨.tuple #[v1, v2], ?_, v1, v2, ys, rfl, .inl ⟨hys, hst⟩, ownsRow_putObj hr1 _ hK' rfl, ownsRow_putObj hr2 _ hK' rfl, hB'.trans (belowK_b (w := w) (Nat.le_refl _) _ D _ _ (by omega) hK' rfl rfl)⟩
    simp [results, Try.f24, go_sem]
  case stop =>
    rintro D c pre W hD hpre ⟨rfl, hI, hst, hst'⟩ hK
    obtain ⟨v1, v2, hb1, hb2, ho1, ho2, hne⟩ := hI.rows
    have hc1 := hb1.cell
    have hc2 := hb2.cell
    have HI := Lib.hid hI
    clear hb1 hb2 hI
    gi_wp2_with fail
    refine wpIn_wide.2 ?_
    go_quiet (fail)
    gi_wp2
    have hK' : (W.drewN nq).heap[D]? = some (.deferred (some [])) := by simpa using hK
    have hB' : Below w.heap.size w (W.drewN nq) := below_drewN HI.out.below nq
    have hr1 : (W.drewN nq).ownsRow w.heap.size 31 5 v1 pre.length (pre.flatMap Pt.fL) := own_mono (b := w.heap.size + 1) ho1 (by omega)
    have hr2 : (W.drewN nq).ownsRow w.heap.size 39 3 v2 pre.length (pre.flatMap Pt.dL) := own_mono (b := w.heap.size + 1) ho2 (by omega)
    refine ⟨by simp, .inl ⟨_, _, rfl, run_takeDeferred hK', ?_⟩⟩
    refine ⟨.tuple #[v1, v2], ?_, v1, v2, pre, rfl, .inr ⟨hpre, hst, hst'⟩, ownsRow_putObj hr1 _ hK' rfl, ownsRow_putObj hr2 _ hK' rfl, hB'.trans (belowK_b (w := w) (Nat.le_refl _) _ D _ _ (by omega) hK' rfl rfl)⟩
    simp [results, Try.f24, go_sem]
theorem told_any (Bs : Nat) (s : ByteArray) (hs : s.size ≤ 1000000) (stop : Int) (w : World) (hB : Bs < w.heap.size) (hc : w.cell? ⟨Bs, 0, none⟩ = some (.string s)) :
    Calls Try.prog 24 #[.func (.func 31) #[] #[.pointer (some ⟨Bs, 0, none⟩)], .int .i64 stop] w (Tells s stop w) :=
  callsIn_wide.1 (told_in 4 (Nat.le_refl _) Bs s hs stop w hB hc)
end Go.Proofs.Ytkaoacoahlbcoaa
