/-
 Law 2: the document's own fractions: Minus, Floor, Ceil, Round.
-/
import Derived.Test.YtllmacokhjmdgaaGreatDoorRQd
namespace Go.Proofs.YtllmacokhjmdgaaGreatDoor
open Go.RowKit
set_option linter.unusedVariables false
theorem szd_mk {k : Nat} {n : Int} {d : Nat} (hd : d ≠ 0) (h1 : n.natAbs < 10000 ^ k) (h2 : d < 10000 ^ k) : SzD k (mkRat n d) := by
 obtain ⟨p1, p2, _⟩ := norm_parts n d hd
 exact ⟨by rw [p1]; exact Nat.lt_of_le_of_lt (Nat.div_le_self _ _) h1, by rw [p2]; exact Nat.lt_of_le_of_lt (Nat.div_le_self _ _) h2⟩
theorem rratadd_big (x y : Rat) (va vb : Value) (w : World) (ha : RQ w va x) (hb : RQ w vb y) (hx : SzD 200 x) (hy : SzD 200 y) : Calls Tryz.prog 38 #[va, vb] w (GaveQ (x + y) w) := by
 by_cases h : decide (x.num < 0) = decide (y.num < 0)
 · exact rratadd_same x y va vb w ha hb hx hy h
 · rcases Nat.lt_or_ge (x.num.natAbs * y.den) (y.num.natAbs * x.den) with h2 | h2
   · exact rratadd_lt x y va vb w ha hb hx hy h h2
   · exact rratadd_ge x y va vb w ha hb hx hy h h2
set_option maxRecDepth 100000 in
set_option maxHeartbeats 4000000 in
theorem rratcmp_np (x y : Rat) (va vb : Value) (w : World) (ha : RQ w va x) (hb : RQ w vb y) (hzx : decide (x.num < 0) = true) (hzy : decide (y.num < 0) = false) : Calls Tryz.prog 37 #[va, vb] w fun e w' => e = .returned (.int .i64 (cmpQ x y)) ∧ Below w.heap.size w w' := by
 obtain ⟨p, n, c, p', n', c', rfl, h1, h2⟩ := ha
 obtain ⟨q, m, d, q', m', d', rfl, k1, k2⟩ := hb
 rw [cmpQ_np x y (of_decide_eq_true hzx) (of_decide_eq_false hzy), hzx, hzy]
 have V := (Dq.refl w).two 50 50 #[.bool true, .slice p n c, .slice p' n' c'] #[.bool false, .slice q m d, .slice q' m' d']
 have x0 := V.c0 1 rfl; have x1 := V.c1 1 rfl; have x2 := V.c2 1 rfl
 have y0 := V.c0 0 rfl; have y1 := V.c1 0 rfl; have y2 := V.c2 0 rfl
 have HB := Lib.hid V.bel
 clear h1 h2 k1 k2 V hzx hzy
 go_enter Tryz.func37, Tryz.ntmps37
 go_wp2_with fail
 go_ret
 exact ⟨rfl, HB.out⟩
set_option maxRecDepth 100000 in
set_option maxHeartbeats 4000000 in
theorem rratcmp_pn (x y : Rat) (va vb : Value) (w : World) (ha : RQ w va x) (hb : RQ w vb y) (hzx : decide (x.num < 0) = false) (hzy : decide (y.num < 0) = true) : Calls Tryz.prog 37 #[va, vb] w fun e w' => e = .returned (.int .i64 (cmpQ x y)) ∧ Below w.heap.size w w' := by
 obtain ⟨p, n, c, p', n', c', rfl, h1, h2⟩ := ha
 obtain ⟨q, m, d, q', m', d', rfl, k1, k2⟩ := hb
 rw [cmpQ_pn x y (of_decide_eq_false hzx) (of_decide_eq_true hzy), hzx, hzy]
 have V := (Dq.refl w).two 50 50 #[.bool false, .slice p n c, .slice p' n' c'] #[.bool true, .slice q m d, .slice q' m' d']
 have x0 := V.c0 1 rfl; have x1 := V.c1 1 rfl; have x2 := V.c2 1 rfl
 have y0 := V.c0 0 rfl; have y1 := V.c1 0 rfl; have y2 := V.c2 0 rfl
 have HB := Lib.hid V.bel
 clear h1 h2 k1 k2 V hzx hzy
 go_enter Tryz.func37, Tryz.ntmps37
 go_wp2_with fail
 go_ret
 exact ⟨rfl, HB.out⟩
theorem rratcmp_big (x y : Rat) (va vb : Value) (w : World) (ha : RQ w va x) (hb : RQ w vb y) (hx : SzD 200 x) (hy : SzD 200 y) : Calls Tryz.prog 37 #[va, vb] w fun e w' => e = .returned (.int .i64 (cmpQ x y)) ∧ Below w.heap.size w w' := by
 cases h1 : decide (x.num < 0) <;> cases h2 : decide (y.num < 0)
 · exact rratcmp_pp x y va vb w ha hb hx hy h1 h2
 · exact rratcmp_pn x y va vb w ha hb h1 h2
 · exact rratcmp_np x y va vb w ha hb h1 h2
 · exact rratcmp_nn x y va vb w ha hb hx hy h1 h2
end Go.Proofs.YtllmacokhjmdgaaGreatDoor
