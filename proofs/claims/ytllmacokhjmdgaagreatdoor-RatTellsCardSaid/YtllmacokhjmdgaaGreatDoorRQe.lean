/-
 Law 2: the document's own fractions: Minus, Floor, Ceil, Round.
-/
import Derived.Test.YtllmacokhjmdgaaGreatDoorRQd
namespace Go.Proofs.YtllmacokhjmdgaaGreatDoor
open Go.RowKit
set_option linter.unusedVariables false
theorem szd_neg {k : Nat} {x : Rat} (h : SzD k x) : SzD k (-x) := ⟨by rw [Rat.neg_num, Int.natAbs_neg]; exact h.1, h.2⟩
theorem szd_mk {k : Nat} {n : Int} {d : Nat} (hd : d ≠ 0) (h1 : n.natAbs < 10000 ^ k) (h2 : d < 10000 ^ k) : SzD k (mkRat n d) := by
 obtain ⟨p1, p2, _⟩ := norm_parts n d hd
 exact ⟨by rw [p1]; exact Nat.lt_of_le_of_lt (Nat.div_le_self _ _) h1, by rw [p2]; exact Nat.lt_of_le_of_lt (Nat.div_le_self _ _) h2⟩
theorem szd_add {j k : Nat} {x y : Rat} (hx : SzD j x) (hy : SzD k y) : SzD (j + k + 1) (x + y) := by
 rw [Rat.add_def']
 refine szd_mk (Nat.mul_ne_zero x.den_nz y.den_nz) ?_ (pow_up _ _ (d_mul hx.2 hy.2) (by omega))
 refine Nat.lt_of_le_of_lt (Int.natAbs_add_le _ _) ?_
 rw [Int.natAbs_mul, Int.natAbs_mul]
 refine d_add (d_mul hx.1 hy.2) ?_
 rw [Nat.add_comm]
 exact d_mul hy.1 hx.2
theorem szd_floor {k : Nat} {x : Rat} (h : SzD k x) (hk : 1 ≤ k) : SzD (k + 1) ((x.floor : Int) : Rat) := by
 have h1 : x.num.natAbs / x.den < 10000 ^ k := Nat.lt_of_le_of_lt (Nat.div_le_self _ _) h.1
 have h2 : (1 : Nat) < 10000 ^ k := Nat.one_lt_pow (by omega) (by decide)
 have h3 := Nat.pow_succ (n := 10000) (m := k)
 cases hz : decide (x.num < 0) with
 | false =>
  rw [floor_mkp x hz]
  exact szd_mk (by decide) (by rw [sgn_abs]; omega) (by omega)
 | true =>
  rw [floor_mkn x hz]
  refine szd_mk (by decide) ?_ (by omega)
  rw [sgn_abs]
  split <;> omega
set_option maxRecDepth 100000 in
set_option maxHeartbeats 4000000 in
theorem rminus_any (x : Rat) (va : Value) (w : World) (ha : RQ w va x) (hx : SzD 800 x) : Calls Tryz.prog 39 #[va] w (GaveQ (-x) w) := by
 obtain ⟨p, n, c, p', n', c', rfl, h1, h2⟩ := ha
 have hmk := neg_mk x
 have hx1 : x.num.natAbs < 10000 ^ 900 := pow_up 800 900 hx.1 (by omega)
 have hx2 : x.den < 10000 ^ 900 := pow_up 800 900 hx.2 (by omega)
 obtain ⟨zs, hz⟩ : ∃ z, decide (x.num < 0) = z := ⟨_, rfl⟩
 rw [hz] at hmk ⊢
 have HM : Hid (∀ W va vb, RN W va x.num.natAbs → RN W vb x.den → Calls Tryz.prog 31 #[.bool (!zs), va, vb] W (GaveQ (-x) W)) := Lib.hid (fun W va vb h1 h2 => rmake_any (-x) _ _ _ va vb W h1 h2 hx1 hx2 x.den_pos hmk)
 have V := (((Dq.refl w).cons h2 hx2).cons h1 hx1).two 50 50 #[.bool zs, .slice p n c, .slice p' n' c'] #[.bool false, .slice none 0 0, .slice none 0 0]
 have x0 := V.c0 1 rfl; have x1 := V.c1 1 rfl; have x2 := V.c2 1 rfl
 clear h1 h2 hx hx1 hx2 hmk hz
 go_enter Tryz.func39, Tryz.ntmps39
 go_wp2_with fail
 refine (HM.out _ _ _ (V.num 0 _ _ rfl).1 (V.num 1 _ _ rfl).1).mono ?_
 rintro e w2 ⟨v2, rfl, hq, hb⟩
 have V2 := (V.below hb).qcons hq
 clear V hb x0 x1 x2
 obtain ⟨a5, n5, c5, a6, n6, c6, rfl, -, -⟩ := hq
 obtain ⟨ys, hys⟩ : ∃ y, decide ((-x).num < 0) = y := ⟨_, rfl⟩
 rw [hys] at V2 ⊢
 have HF := Lib.hid (V2.finq 0 0 rfl rfl)
 have r0 := V2.c0 0 rfl; have r1 := V2.c1 0 rfl; have r2 := V2.c2 0 rfl
 have f0 := V2.frozen 0 0 rfl; have f1 := V2.frozen 0 1 rfl; have f2 := V2.frozen 0 2 rfl
 clear V2 hys
 go_wp2_with fail
 exact bodyPost_ret (res_ref rfl _ _ _ _ _ _ _ _ _ _ rfl HF.out.1) rfl HF.out.2
set_option maxRecDepth 100000 in
set_option maxHeartbeats 4000000 in
theorem rfloor_p (x : Rat) (va : Value) (w : World) (ha : RQ w va x) (hx : SzD 800 x) (hz : decide (x.num < 0) = false) : Calls Tryz.prog 41 #[va] w (GaveQ ((x.floor : Int) : Rat) w) := by
 obtain ⟨p, n, c, p', n', c', rfl, h1, h2⟩ := ha
 have hmk : ((x.floor : Int) : Rat) = mkRat (sgn false (x.num.natAbs / x.den)) 1 := floor_mkp x hz
 have hx1 : x.num.natAbs < 10000 ^ 900 := pow_up 800 900 hx.1 (by omega)
 have hx2 : x.den < 10000 ^ 900 := pow_up 800 900 hx.2 (by omega)
 have hq9 : x.num.natAbs / x.den < 10000 ^ 900 := by
  have h5 : x.num.natAbs / x.den < 10000 ^ 800 := Nat.lt_of_le_of_lt (Nat.div_le_self _ _) hx.1
  exact pow_up 800 900 h5 (by omega)
 rw [hz]
 obtain ⟨X, hX⟩ : ∃ X, ((x.floor : Int) : Rat) = X := ⟨_, rfl⟩
 rw [hX] at hmk ⊢
 have HM : Hid (∀ W va vb, RN W va (x.num.natAbs / x.den) → RN W vb 1 → Calls Tryz.prog 31 #[.bool false, va, vb] W (GaveQ X W)) := Lib.hid (fun W va vb h1 h2 => rmake_any X _ _ _ va vb W h1 h2 hq9 (d_pos 900 (by omega) (by omega)) (by omega) hmk)
 have HD0 := Lib.hid x.den_pos
 have V := (((Dq.refl w).cons h2 hx2).cons h1 hx1).two 50 50 #[.bool false, .slice p n c, .slice p' n' c'] #[.bool false, .slice none 0 0, .slice none 0 0]
 have x0 := V.c0 1 rfl; have x1 := V.c1 1 rfl; have x2 := V.c2 1 rfl
 clear h1 h2 hx hx1 hx2 hmk hz hX hq9
 go_enter Tryz.func41, Tryz.ntmps41
 go_wp2_with fail
 refine (V.dvm 0 1 rfl rfl HD0.out).mono ?_
 rintro e w2 ⟨a2, n2, c2, a3, n3, c3, rfl, hz3, V2⟩
 have x0 := V2.c0 1 rfl; have x1 := V2.c1 1 rfl; have x2 := V2.c2 1 rfl
 clear V
 clear hz3
 have V2l := V2.lit1
 clear V2
 go_wp2_with fail
 refine (HM.out _ _ _ (V2l.num 1 _ _ rfl).1 (V2l.num 0 _ _ rfl).1).mono ?_
 rintro e w4 ⟨v4, rfl, hq, hb⟩
 have V4 := (V2l.below hb).qcons hq
 clear V2l hb x0 x1 x2
 obtain ⟨a5, n5, c5, a6, n6, c6, rfl, -, -⟩ := hq
 obtain ⟨ys, hys⟩ : ∃ y, decide ((X).num < 0) = y := ⟨_, rfl⟩
 rw [hys] at V4 ⊢
 have HF := Lib.hid (V4.finq 0 0 rfl rfl)
 have r0 := V4.c0 0 rfl; have r1 := V4.c1 0 rfl; have r2 := V4.c2 0 rfl
 have f0 := V4.frozen 0 0 rfl; have f1 := V4.frozen 0 1 rfl; have f2 := V4.frozen 0 2 rfl
 clear V4 hys
 go_wp2_with fail
 exact bodyPost_ret (res_ref rfl _ _ _ _ _ _ _ _ _ _ rfl HF.out.1) rfl HF.out.2
set_option maxRecDepth 100000 in
set_option maxHeartbeats 4000000 in
theorem rfloor_z (x : Rat) (va : Value) (w : World) (ha : RQ w va x) (hx : SzD 800 x) (hz : decide (x.num < 0) = true) (hr : x.num.natAbs % x.den = 0) : Calls Tryz.prog 41 #[va] w (GaveQ ((x.floor : Int) : Rat) w) := by
 obtain ⟨p, n, c, p', n', c', rfl, h1, h2⟩ := ha
 have hmk : ((x.floor : Int) : Rat) = mkRat (sgn true (x.num.natAbs / x.den)) 1 := by rw [floor_mkn x hz, if_pos hr, Nat.add_zero]
 have hx1 : x.num.natAbs < 10000 ^ 900 := pow_up 800 900 hx.1 (by omega)
 have hx2 : x.den < 10000 ^ 900 := pow_up 800 900 hx.2 (by omega)
 have hq9 : x.num.natAbs / x.den < 10000 ^ 900 := by
  have h5 : x.num.natAbs / x.den < 10000 ^ 800 := Nat.lt_of_le_of_lt (Nat.div_le_self _ _) hx.1
  exact pow_up 800 900 h5 (by omega)
 rw [hz]
 obtain ⟨X, hX⟩ : ∃ X, ((x.floor : Int) : Rat) = X := ⟨_, rfl⟩
 rw [hX] at hmk ⊢
 have HM : Hid (∀ W va vb, RN W va (x.num.natAbs / x.den) → RN W vb 1 → Calls Tryz.prog 31 #[.bool true, va, vb] W (GaveQ X W)) := Lib.hid (fun W va vb h1 h2 => rmake_any X _ _ _ va vb W h1 h2 hq9 (d_pos 900 (by omega) (by omega)) (by omega) hmk)
 have HD0 := Lib.hid x.den_pos
 have HR := Lib.hid hr
 have V := (((Dq.refl w).cons h2 hx2).cons h1 hx1).two 50 50 #[.bool true, .slice p n c, .slice p' n' c'] #[.bool false, .slice none 0 0, .slice none 0 0]
 have x0 := V.c0 1 rfl; have x1 := V.c1 1 rfl; have x2 := V.c2 1 rfl
 clear h1 h2 hx hx1 hx2 hmk hz hX hq9 hr
 go_enter Tryz.func41, Tryz.ntmps41
 go_wp2_with fail
 refine (V.dvm 0 1 rfl rfl HD0.out).mono ?_
 rintro e w2 ⟨a2, n2, c2, a3, n3, c3, rfl, hz3, V2⟩
 have x0 := V2.c0 1 rfl; have x1 := V2.c1 1 rfl; have x2 := V2.c2 1 rfl
 clear V
 obtain rfl : n3 = 0 := hz3.2 HR.out
 clear hz3
 have V2l := V2.lit1
 clear V2
 go_wp2_with fail
 refine (HM.out _ _ _ (V2l.num 1 _ _ rfl).1 (V2l.num 0 _ _ rfl).1).mono ?_
 rintro e w4 ⟨v4, rfl, hq, hb⟩
 have V4 := (V2l.below hb).qcons hq
 clear V2l hb x0 x1 x2
 obtain ⟨a5, n5, c5, a6, n6, c6, rfl, -, -⟩ := hq
 obtain ⟨ys, hys⟩ : ∃ y, decide ((X).num < 0) = y := ⟨_, rfl⟩
 rw [hys] at V4 ⊢
 have HF := Lib.hid (V4.finq 0 0 rfl rfl)
 have r0 := V4.c0 0 rfl; have r1 := V4.c1 0 rfl; have r2 := V4.c2 0 rfl
 have f0 := V4.frozen 0 0 rfl; have f1 := V4.frozen 0 1 rfl; have f2 := V4.frozen 0 2 rfl
 clear V4 hys
 go_wp2_with fail
 exact bodyPost_ret (res_ref rfl _ _ _ _ _ _ _ _ _ _ rfl HF.out.1) rfl HF.out.2
set_option maxRecDepth 100000 in
set_option maxHeartbeats 4000000 in
theorem rfloor_r (x : Rat) (va : Value) (w : World) (ha : RQ w va x) (hx : SzD 800 x) (hz : decide (x.num < 0) = true) (hr : x.num.natAbs % x.den ≠ 0) : Calls Tryz.prog 41 #[va] w (GaveQ ((x.floor : Int) : Rat) w) := by
 obtain ⟨p, n, c, p', n', c', rfl, h1, h2⟩ := ha
 have hmk : ((x.floor : Int) : Rat) = mkRat (sgn true (x.num.natAbs / x.den + 1)) 1 := by rw [floor_mkn x hz, if_neg hr]
 have hx1 : x.num.natAbs < 10000 ^ 900 := pow_up 800 900 hx.1 (by omega)
 have hx2 : x.den < 10000 ^ 900 := pow_up 800 900 hx.2 (by omega)
 have hq9 : x.num.natAbs / x.den + 1 < 10000 ^ 900 := by
  have h5 : x.num.natAbs / x.den < 10000 ^ 800 := Nat.lt_of_le_of_lt (Nat.div_le_self _ _) hx.1
  exact pow_up (800 + 1) 900 (d_add h5 (d_pos 800 (by omega) (by omega))) (by omega)
 rw [hz]
 obtain ⟨X, hX⟩ : ∃ X, ((x.floor : Int) : Rat) = X := ⟨_, rfl⟩
 rw [hX] at hmk ⊢
 have HM : Hid (∀ W va vb, RN W va (x.num.natAbs / x.den + 1) → RN W vb 1 → Calls Tryz.prog 31 #[.bool true, va, vb] W (GaveQ X W)) := Lib.hid (fun W va vb h1 h2 => rmake_any X _ _ _ va vb W h1 h2 hq9 (d_pos 900 (by omega) (by omega)) (by omega) hmk)
 have HD0 := Lib.hid x.den_pos
 have HR := Lib.hid hr
 have HQ9 := Lib.hid hq9
 have V := (((Dq.refl w).cons h2 hx2).cons h1 hx1).two 50 50 #[.bool true, .slice p n c, .slice p' n' c'] #[.bool false, .slice none 0 0, .slice none 0 0]
 have x0 := V.c0 1 rfl; have x1 := V.c1 1 rfl; have x2 := V.c2 1 rfl
 clear h1 h2 hx hx1 hx2 hmk hz hX hq9 hr
 go_enter Tryz.func41, Tryz.ntmps41
 go_wp2_with fail
 refine (V.dvm 0 1 rfl rfl HD0.out).mono ?_
 rintro e w2 ⟨a2, n2, c2, a3, n3, c3, rfl, hz3, V2⟩
 have x0 := V2.c0 1 rfl; have x1 := V2.c1 1 rfl; have x2 := V2.c2 1 rfl
 clear V
 have hn3 : (0 : Int) < (n3 : Int) := by
  have : n3 ≠ 0 := fun e => HR.out (hz3.1 e)
  omega
 clear hz3
 have V2l := V2.lit1
 clear V2
 go_wp2_with fail
 refine (V2l.add 1 0 rfl rfl ⟨rfl, HQ9.out⟩).mono ?_
 rintro e w3 ⟨a7, n7, c7, rfl, V3⟩
 have V3l := V3.lit1
 have x0 := V3.c0 1 rfl; have x1 := V3.c1 1 rfl; have x2 := V3.c2 1 rfl
 clear V2l V3
 go_wp2_with fail
 refine (HM.out _ _ _ (V3l.num 1 _ _ rfl).1 (V3l.num 0 _ _ rfl).1).mono ?_
 rintro e w4 ⟨v4, rfl, hq, hb⟩
 have V4 := (V3l.below hb).qcons hq
 clear V3l hb x0 x1 x2
 obtain ⟨a5, n5, c5, a6, n6, c6, rfl, -, -⟩ := hq
 obtain ⟨ys, hys⟩ : ∃ y, decide ((X).num < 0) = y := ⟨_, rfl⟩
 rw [hys] at V4 ⊢
 have HF := Lib.hid (V4.finq 0 0 rfl rfl)
 have r0 := V4.c0 0 rfl; have r1 := V4.c1 0 rfl; have r2 := V4.c2 0 rfl
 have f0 := V4.frozen 0 0 rfl; have f1 := V4.frozen 0 1 rfl; have f2 := V4.frozen 0 2 rfl
 clear V4 hys
 go_wp2_with fail
 exact bodyPost_ret (res_ref rfl _ _ _ _ _ _ _ _ _ _ rfl HF.out.1) rfl HF.out.2
theorem rfloor_any (x : Rat) (va : Value) (w : World) (ha : RQ w va x) (hx : SzD 800 x) : Calls Tryz.prog 41 #[va] w (GaveQ ((x.floor : Int) : Rat) w) := by
 cases hz : decide (x.num < 0) with
 | false => exact rfloor_p x va w ha hx hz
 | true =>
  by_cases hr : x.num.natAbs % x.den = 0
  · exact rfloor_z x va w ha hx hz hr
  · exact rfloor_r x va w ha hx hz hr
theorem rratadd_big (x y : Rat) (va vb : Value) (w : World) (ha : RQ w va x) (hb : RQ w vb y) (hx : SzD 200 x) (hy : SzD 200 y) : Calls Tryz.prog 38 #[va, vb] w (GaveQ (x + y) w) := by
 by_cases h : decide (x.num < 0) = decide (y.num < 0)
 · exact rratadd_same x y va vb w ha hb hx hy h
 · rcases Nat.lt_or_ge (x.num.natAbs * y.den) (y.num.natAbs * x.den) with h2 | h2
   · exact rratadd_lt x y va vb w ha hb hx hy h h2
   · exact rratadd_ge x y va vb w ha hb hx hy h h2
theorem rratadd_any (x y : Rat) (va vb : Value) (w : World) (ha : RQ w va x) (hb : RQ w vb y) (hx : SzD 100 x) (hy : SzD 100 y) : Calls Tryz.prog 38 #[va, vb] w (GaveQ (x + y) w) :=
 rratadd_big x y va vb w ha hb (hx.mono (by decide)) (hy.mono (by decide))
set_option maxRecDepth 100000 in
set_option maxHeartbeats 4000000 in
theorem rratcmp_np (x y : Rat) (va vb : Value) (w : World) (ha : RQ w va x) (hb : RQ w vb y) (hzx : decide (x.num < 0) = true) (hzy : decide (y.num < 0) = false) : Calls Tryz.prog 37 #[va, vb] w fun e w' => e = .returned (.int .i64 (cmpQ x y)) ∧ Below w.heap.size w w' := by
 obtain ⟨p, n, c, p', n', c', rfl, h1, h2⟩ := ha
 obtain ⟨q, m, d, q', m', d', rfl, k1, k2⟩ := hb
 rw [cmpQ_np x y (of_decide_eq_true hzx) (of_decide_eq_false hzy), hzx, hzy]
 have V := (Dq.refl w).two 50 50 #[.bool true, .slice p n c, .slice p' n' c'] #[.bool false, .slice q m d, .slice q' m' d']
 have x0 := V.c0 1 rfl; have x1 := V.c1 1 rfl; have x2 := V.c2 1 rfl
 have y0 := V.c0 0 rfl; have y1 := V.c1 0 rfl; have y2 := V.c2 0 rfl
 have HB := Lib.hid V.bel
 clear h1 h2 k1 k2 V hzx hzy
 go_enter Tryz.func37, Tryz.ntmps37
 go_wp2_with fail
 go_ret
 exact ⟨rfl, HB.out⟩
set_option maxRecDepth 100000 in
set_option maxHeartbeats 4000000 in
theorem rratcmp_pn (x y : Rat) (va vb : Value) (w : World) (ha : RQ w va x) (hb : RQ w vb y) (hzx : decide (x.num < 0) = false) (hzy : decide (y.num < 0) = true) : Calls Tryz.prog 37 #[va, vb] w fun e w' => e = .returned (.int .i64 (cmpQ x y)) ∧ Below w.heap.size w w' := by
 obtain ⟨p, n, c, p', n', c', rfl, h1, h2⟩ := ha
 obtain ⟨q, m, d, q', m', d', rfl, k1, k2⟩ := hb
 rw [cmpQ_pn x y (of_decide_eq_false hzx) (of_decide_eq_true hzy), hzx, hzy]
 have V := (Dq.refl w).two 50 50 #[.bool false, .slice p n c, .slice p' n' c'] #[.bool true, .slice q m d, .slice q' m' d']
 have x0 := V.c0 1 rfl; have x1 := V.c1 1 rfl; have x2 := V.c2 1 rfl
 have y0 := V.c0 0 rfl; have y1 := V.c1 0 rfl; have y2 := V.c2 0 rfl
 have HB := Lib.hid V.bel
 clear h1 h2 k1 k2 V hzx hzy
 go_enter Tryz.func37, Tryz.ntmps37
 go_wp2_with fail
 go_ret
 exact ⟨rfl, HB.out⟩
theorem rratcmp_big (x y : Rat) (va vb : Value) (w : World) (ha : RQ w va x) (hb : RQ w vb y) (hx : SzD 200 x) (hy : SzD 200 y) : Calls Tryz.prog 37 #[va, vb] w fun e w' => e = .returned (.int .i64 (cmpQ x y)) ∧ Below w.heap.size w w' := by
 cases h1 : decide (x.num < 0) <;> cases h2 : decide (y.num < 0)
 · exact rratcmp_pp x y va vb w ha hb hx hy h1 h2
 · exact rratcmp_pn x y va vb w ha hb h1 h2
 · exact rratcmp_np x y va vb w ha hb h1 h2
 · exact rratcmp_nn x y va vb w ha hb hx hy h1 h2
theorem rratcmp_any (x y : Rat) (va vb : Value) (w : World) (ha : RQ w va x) (hb : RQ w vb y) (hx : SzD 100 x) (hy : SzD 100 y) : Calls Tryz.prog 37 #[va, vb] w fun e w' => e = .returned (.int .i64 (cmpQ x y)) ∧ Below w.heap.size w w' :=
 rratcmp_big x y va vb w ha hb (hx.mono (by decide)) (hy.mono (by decide))
theorem szd_mul {j k : Nat} {x y : Rat} (hx : SzD j x) (hy : SzD k y) : SzD (j + k) (x * y) := by
 rw [mul_mk]
 exact szd_mk (Nat.mul_ne_zero x.den_nz y.den_nz) (by rw [sgn_abs]; exact d_mul hx.1 hy.1) (d_mul hx.2 hy.2)
theorem szd_div {j k : Nat} {x y : Rat} (hx : SzD j x) (hy : SzD k y) (h : y.num.natAbs ≠ 0) : SzD (j + k) (x * y⁻¹) := by
 rw [div_mk x y h]
 exact szd_mk (Nat.mul_ne_zero x.den_nz h) (by rw [sgn_abs]; exact d_mul hx.1 hy.2) (d_mul hx.2 hy.1)
theorem szd_rnd {k : Nat} {x : Rat} (h : SzD k x) : SzD (k + 3) ((rndQ x : Int) : Rat) := by
 have hs12 : SzD 1 H12 := ⟨by rw [h12_parts.1]; decide, by rw [h12_parts.2]; decide⟩
 cases hz : decide (x.num < 0) with
 | false =>
  rw [round_mk x hz]
  exact szd_floor (szd_add h hs12) (by omega)
 | true =>
  have hzn : decide ((-x).num < 0) = false := decide_eq_false (by rw [Rat.neg_num]; have := of_decide_eq_true hz; omega)
  have e : ((rndQ x : Int) : Rat) = -((rndQ (-x) : Int) : Rat) := by rw [rndQ_neg, Rat.neg_neg]
  rw [e, round_mk _ hzn]
  exact szd_neg (szd_floor (szd_add (szd_neg h) hs12) (by omega))
set_option maxRecDepth 100000 in
set_option maxHeartbeats 4000000 in
theorem rceil_any (x : Rat) (va : Value) (w : World) (ha : RQ w va x) (hx : SzD 790 x) : Calls Tryz.prog 42 #[va] w (GaveQ ((x.ceil : Int) : Rat) w) := by
 obtain ⟨p, n, c, p', n', c', rfl, h1, h2⟩ := ha
 have hxn := szd_neg hx
 have hxf := szd_floor hxn (by omega)
 have H1 : Hid (∀ W v, RQ W v x → Calls Tryz.prog 39 #[v] W (GaveQ (-x) W)) := Lib.hid (fun W v h => rminus_any x v W h (hx.mono (by omega)))
 have H2 : Hid (∀ W v, RQ W v (-x) → Calls Tryz.prog 41 #[v] W (GaveQ (((-x).floor : Int) : Rat) W)) := Lib.hid (fun W v h => rfloor_any (-x) v W h (hxn.mono (by omega)))
 have H3 : Hid (∀ W v, RQ W v (((-x).floor : Int) : Rat) → Calls Tryz.prog 39 #[v] W (GaveQ ((x.ceil : Int) : Rat) W)) := Lib.hid (fun W v h => by
  rw [ceil_mk]
  exact rminus_any _ v W h (hxf.mono (by omega)))
 obtain ⟨zs, hz⟩ : ∃ z, decide (x.num < 0) = z := ⟨_, rfl⟩
 have hR : RQ w (.agg #[.bool zs, .slice p n c, .slice p' n' c']) x := ⟨p, n, c, p', n', c', by rw [hz], h1, h2⟩
 rw [hz]
 obtain ⟨F, hF⟩ : ∃ F, (((-x).floor : Int) : Rat) = F := ⟨_, rfl⟩
 obtain ⟨M, hM⟩ : ∃ F, -x = F := ⟨_, rfl⟩
 obtain ⟨X, hX⟩ : ∃ F, ((x.ceil : Int) : Rat) = F := ⟨_, rfl⟩
 simp only [hF, hX] at H2 H3 ⊢
 simp only [hM] at H1 H2
 have V := ((Dq.refl w).qcons hR).two 50 50 #[.bool zs, .slice p n c, .slice p' n' c'] #[.bool false, .slice none 0 0, .slice none 0 0]
 have x0 := V.c0 1 rfl; have x1 := V.c1 1 rfl; have x2 := V.c2 1 rfl
 clear h1 h2 hx hxn hxf hz hR hF hM hX
 go_enter Tryz.func42, Tryz.ntmps42
 go_wp2_with fail
 refine (H1.out _ _ (V.ref 0 _ _ rfl)).mono ?_
 rintro e w2 ⟨v2, rfl, hq2, hb2⟩
 have V2 := V.below hb2
 clear V hb2 x0 x1 x2
 go_wp2_with fail
 refine (H2.out _ _ hq2).mono ?_
 rintro e w3 ⟨v3, rfl, hq3, hb3⟩
 have V3 := V2.below hb3
 clear V2 hb3 hq2
 go_wp2_with fail
 refine (H3.out _ _ hq3).mono ?_
 rintro e w4 ⟨v4, rfl, hq, hb4⟩
 have V4 := (V3.below hb4).qcons hq
 clear V3 hb4 hq3
 obtain ⟨a5, n5, c5, a6, n6, c6, rfl, -, -⟩ := hq
 obtain ⟨ys, hys⟩ : ∃ y, decide ((X).num < 0) = y := ⟨_, rfl⟩
 rw [hys] at V4 ⊢
 have HF := Lib.hid (V4.finq 0 0 rfl rfl)
 have r0 := V4.c0 0 rfl; have r1 := V4.c1 0 rfl; have r2 := V4.c2 0 rfl
 have f0 := V4.frozen 0 0 rfl; have f1 := V4.frozen 0 1 rfl; have f2 := V4.frozen 0 2 rfl
 clear V4 hys
 go_wp2_with fail
 exact bodyPost_ret (res_ref rfl _ _ _ _ _ _ _ _ _ _ rfl HF.out.1) rfl HF.out.2
set_option maxRecDepth 100000 in
set_option maxHeartbeats 4000000 in
theorem rround_pos (x : Rat) (va : Value) (w : World) (ha : RQ w va x) (hx : SzD 90 x) (hz : decide (x.num < 0) = false) : Calls Tryz.prog 43 #[va] w (GaveQ ((rndQ x : Int) : Rat) w) := by
 obtain ⟨p, n, c, p', n', c', rfl, h1, h2⟩ := ha
 have hs12 : SzD 1 H12 := ⟨by rw [h12_parts.1]; decide, by rw [h12_parts.2]; decide⟩
 have hxh := szd_add hx hs12
 have HM : Hid (∀ W va vb, RN W va 1 → RN W vb 2 → Calls Tryz.prog 31 #[.bool false, va, vb] W (GaveQ H12 W)) := Lib.hid (fun W va vb h1 h2 => rmake_any H12 false 1 2 va vb W h1 h2 (d_pos 900 (by omega) (by omega)) (d_pos 900 (by omega) (by omega)) (by omega) rfl)
 obtain ⟨H, hH⟩ : ∃ H, H12 = H := ⟨_, rfl⟩
 have H1 : Hid (∀ W va vb, RQ W va x → RQ W vb H12 → Calls Tryz.prog 38 #[va, vb] W (GaveQ (x + H12) W)) := Lib.hid (fun W va vb h1 h2 => rratadd_any x H12 va vb W h1 h2 (hx.mono (by omega)) (hs12.mono (by omega)))
 have H2 : Hid (∀ W v, RQ W v (x + H12) → Calls Tryz.prog 41 #[v] W (GaveQ ((rndQ x : Int) : Rat) W)) := Lib.hid (fun W v h => by
  rw [round_mk x hz]
  exact rfloor_any _ v W h (hxh.mono (by omega)))
 obtain ⟨zs, hz2⟩ : ∃ z, decide (x.num < 0) = z := ⟨_, rfl⟩
 have hR : RQ w (.agg #[.bool zs, .slice p n c, .slice p' n' c']) x := ⟨p, n, c, p', n', c', by rw [hz2], h1, h2⟩
 rw [hz2]
 obtain rfl : zs = false := by rw [← hz2, hz]
 obtain ⟨M, hM⟩ : ∃ F, x + H12 = F := ⟨_, rfl⟩
 obtain ⟨X, hX⟩ : ∃ F, ((rndQ x : Int) : Rat) = F := ⟨_, rfl⟩
 simp only [hM] at H1 H2
 simp only [hX] at H2 ⊢
 simp only [hH] at HM H1
 have V := ((Dq.refl w).qcons hR).two 50 50 #[.bool false, .slice p n c, .slice p' n' c'] #[.bool false, .slice none 0 0, .slice none 0 0]
 clear h1 h2 hx hxh hs12 hz hz2 hR hM hX hH
 go_enter Tryz.func43, Tryz.ntmps43
 go_wp2_with fail
 have V1 := (V.lit1).lit2
 simp only [World.size_alloc] at V1
 clear V
 refine (HM.out _ _ _ (V1.num 1 _ _ rfl).1 (V1.num 0 _ _ rfl).1).mono ?_
 rintro e w2 ⟨v2, rfl, hq, hb⟩
 have V2 := (V1.below hb).qcons hq
 obtain ⟨a5, n5, c5, a6, n6, c6, rfl, -, -⟩ := hq
 obtain ⟨yh, hyh⟩ : ∃ y, decide (H.num < 0) = y := ⟨_, rfl⟩
 rw [hyh] at V2 ⊢
 have V3 := V2.alloc 50 #[.bool yh, .slice a5 n5 c5, .slice a6 n6 c6]
 have x0 := V3.c0 2 rfl; have x1 := V3.c1 2 rfl; have x2 := V3.c2 2 rfl
 have g0 := V3.c0 0 rfl; have g1 := V3.c1 0 rfl; have g2 := V3.c2 0 rfl
 clear V1 V2 hb hyh
 go_wp2_with fail
 refine (H1.out _ _ _ (V3.ref 1 _ _ rfl) (V3.ref 0 _ _ rfl)).mono ?_
 rintro e w4 ⟨v4, rfl, hq4, hb4⟩
 have V4 := V3.below hb4
 clear V3 hb4 x0 x1 x2 g0 g1 g2
 go_wp2_with fail
 refine (H2.out _ _ hq4).mono ?_
 rintro e w5 ⟨v5, rfl, hq, hb5⟩
 have V5 := (V4.below hb5).qcons hq
 clear V4 hb5 hq4
 obtain ⟨a8, n8, c8, a9, n9, c9, rfl, -, -⟩ := hq
 obtain ⟨ys, hys⟩ : ∃ y, decide ((X).num < 0) = y := ⟨_, rfl⟩
 rw [hys] at V5 ⊢
 have HF := Lib.hid (V5.finq 1 0 rfl rfl)
 have r0 := V5.c0 1 rfl; have r1 := V5.c1 1 rfl; have r2 := V5.c2 1 rfl
 have f0 := V5.frozen 1 0 rfl; have f1 := V5.frozen 1 1 rfl; have f2 := V5.frozen 1 2 rfl
 clear V5 hys
 go_wp2_with fail
 exact bodyPost_ret (res_ref rfl _ _ _ _ _ _ _ _ _ _ rfl HF.out.1) rfl HF.out.2
set_option maxRecDepth 100000 in
set_option maxHeartbeats 4000000 in
theorem rround_any (x : Rat) (va : Value) (w : World) (ha : RQ w va x) (hx : SzD 80 x) : Calls Tryz.prog 43 #[va] w (GaveQ ((rndQ x : Int) : Rat) w) := by
 by_cases hz0 : decide (x.num < 0) = false
 · exact rround_pos x va w ha (hx.mono (by omega)) hz0
 have hz : decide (x.num < 0) = true := by revert hz0; cases decide (x.num < 0) <;> simp
 obtain ⟨p, n, c, p', n', c', rfl, h1, h2⟩ := ha
 have hxn := szd_neg hx
 have hzn : decide ((-x).num < 0) = false := decide_eq_false (by rw [Rat.neg_num]; have := of_decide_eq_true hz; omega)
 have hsr : SzD 90 ((rndQ (-x) : Int) : Rat) := by
  rw [round_mk _ hzn]
  have hs12 : SzD 1 H12 := ⟨by rw [h12_parts.1]; decide, by rw [h12_parts.2]; decide⟩
  exact (szd_floor (szd_add hxn hs12) (by omega)).mono (by omega)
 have HM : Hid (∀ W va vb, RN W va 1 → RN W vb 2 → Calls Tryz.prog 31 #[.bool false, va, vb] W (GaveQ H12 W)) := Lib.hid (fun W va vb h1 h2 => rmake_any H12 false 1 2 va vb W h1 h2 (d_pos 900 (by omega) (by omega)) (d_pos 900 (by omega) (by omega)) (by omega) rfl)
 obtain ⟨H, hH⟩ : ∃ H, H12 = H := ⟨_, rfl⟩
 have H1 : Hid (∀ W v, RQ W v x → Calls Tryz.prog 39 #[v] W (GaveQ (-x) W)) := Lib.hid (fun W v h => rminus_any x v W h (hx.mono (by omega)))
 have H2 : Hid (∀ W v, RQ W v (-x) → Calls Tryz.prog 43 #[v] W (GaveQ ((rndQ (-x) : Int) : Rat) W)) := Lib.hid (fun W v h => rround_pos (-x) v W h (hxn.mono (by omega)) hzn)
 have H3 : Hid (∀ W v, RQ W v ((rndQ (-x) : Int) : Rat) → Calls Tryz.prog 39 #[v] W (GaveQ ((rndQ x : Int) : Rat) W)) := Lib.hid (fun W v h => by
  have := rminus_any _ v W h (hsr.mono (by omega))
  rwa [rndQ_neg, Rat.neg_neg] at this)
 obtain ⟨zs, hz2⟩ : ∃ z, decide (x.num < 0) = z := ⟨_, rfl⟩
 have hR : RQ w (.agg #[.bool zs, .slice p n c, .slice p' n' c']) x := ⟨p, n, c, p', n', c', by rw [hz2], h1, h2⟩
 rw [hz2]
 obtain rfl : zs = true := by rw [← hz2, hz]
 obtain ⟨F, hF⟩ : ∃ F, ((rndQ (-x) : Int) : Rat) = F := ⟨_, rfl⟩
 obtain ⟨M, hM⟩ : ∃ F, -x = F := ⟨_, rfl⟩
 obtain ⟨X, hX⟩ : ∃ F, ((rndQ x : Int) : Rat) = F := ⟨_, rfl⟩
 simp only [hF] at H2 H3
 simp only [hX] at H3 ⊢
 simp only [hM] at H1 H2
 simp only [hH] at HM
 have V := ((Dq.refl w).qcons hR).two 50 50 #[.bool true, .slice p n c, .slice p' n' c'] #[.bool false, .slice none 0 0, .slice none 0 0]
 clear h1 h2 hx hxn hzn hsr hz hz0 hz2 hR hF hM hX hH
 go_enter Tryz.func43, Tryz.ntmps43
 go_wp2_with fail
 have V1 := (V.lit1).lit2
 simp only [World.size_alloc] at V1
 clear V
 refine (HM.out _ _ _ (V1.num 1 _ _ rfl).1 (V1.num 0 _ _ rfl).1).mono ?_
 rintro e w2 ⟨v2, rfl, hq, hb⟩
 have V2 := (V1.below hb).qcons hq
 obtain ⟨a5, n5, c5, a6, n6, c6, rfl, -, -⟩ := hq
 obtain ⟨yh, hyh⟩ : ∃ y, decide (H.num < 0) = y := ⟨_, rfl⟩
 rw [hyh] at V2 ⊢
 have V3 := V2.alloc 50 #[.bool yh, .slice a5 n5 c5, .slice a6 n6 c6]
 have x0 := V3.c0 2 rfl; have x1 := V3.c1 2 rfl; have x2 := V3.c2 2 rfl
 clear V1 V2 hb hyh
 go_wp2_with fail
 refine (H1.out _ _ (V3.ref 1 _ _ rfl)).mono ?_
 rintro e w4 ⟨v4, rfl, hq4, hb4⟩
 have V4 := V3.below hb4
 clear V3 hb4 x0 x1 x2
 go_wp2_with fail
 refine (H2.out _ _ hq4).mono ?_
 rintro e w5 ⟨v5, rfl, hq5, hb5⟩
 have V5 := V4.below hb5
 clear V4 hb5 hq4
 go_wp2_with fail
 refine (H3.out _ _ hq5).mono ?_
 rintro e w6 ⟨v6, rfl, hq, hb6⟩
 have V6 := (V5.below hb6).qcons hq
 clear V5 hb6 hq5
 obtain ⟨a8, n8, c8, a9, n9, c9, rfl, -, -⟩ := hq
 obtain ⟨ys, hys⟩ : ∃ y, decide ((X).num < 0) = y := ⟨_, rfl⟩
 rw [hys] at V6 ⊢
 have HF := Lib.hid (V6.finq 1 0 rfl rfl)
 have r0 := V6.c0 1 rfl; have r1 := V6.c1 1 rfl; have r2 := V6.c2 1 rfl
 have f0 := V6.frozen 1 0 rfl; have f1 := V6.frozen 1 1 rfl; have f2 := V6.frozen 1 2 rfl
 clear V6 hys
 go_wp2_with fail
 exact bodyPost_ret (res_ref rfl _ _ _ _ _ _ _ _ _ _ rfl HF.out.1) rfl HF.out.2
end Go.Proofs.YtllmacokhjmdgaaGreatDoor
