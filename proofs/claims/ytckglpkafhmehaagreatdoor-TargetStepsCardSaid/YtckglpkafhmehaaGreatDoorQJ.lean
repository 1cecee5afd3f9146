/-
 Law 2: Mul.
 Law 2: Div.
 Law 2: sizes by 19 digits a word.
-/
import Derived.Test.YtckglpkafhmehaaGreatDoorQG
namespace Go.Proofs.YtckglpkafhmehaaGreatDoor
open Go.RowKit
set_option linter.unusedVariables false
theorem sz_mul {j k : Nat} {x y : Rat} (hx : Sz j x) (hy : Sz k y) : Sz (j + k) (x * y) := by
 obtain ⟨n1, n2⟩ := mul_nums x y
 refine ⟨?_, ?_⟩
 · rw [n1]
   exact w_mul (Nat.lt_of_le_of_lt (Nat.div_le_self _ _) hx.1) (Nat.lt_of_le_of_lt (Nat.div_le_self _ _) hy.1)
 · rw [n2]
   exact w_mul (Nat.lt_of_le_of_lt (Nat.div_le_self _ _) hx.2) (Nat.lt_of_le_of_lt (Nat.div_le_self _ _) hy.2)
set_option maxRecDepth 100000 in
set_option maxHeartbeats 16000000 in
theorem mulr_any (x y : Rat) (j k : Nat) (va vb : Value) (w : World) (ha : IsR w va x) (hb : IsR w vb y) (hx : Sz j x) (hy : Sz k y) (hj : j ≤ 40) (hk : k ≤ 40) (htb : TabB w) : Calls Tryz.prog 24 #[va, vb] w (GaveR (x * y) w) := by
 have hRa := ha
 have hRb := hb
 obtain ⟨p, n, c, p', n', c', rfl, h1, h2⟩ := ha
 obtain ⟨q, m, d, q', m', d', rfl, k1, k2⟩ := hb
 have HTB : Hid (∀ W, Below w.heap.size w W → TabB W) := Lib.hid (fun W hb => htb.below hb (Nat.le_refl _))
 have hX1 := mul_nums x y
 have hX2 := mul_sign x y
 have hxs := sz_mul hx hy
 have HXs : Hid ((x * y).num.natAbs < 18446744073709551616 ^ 100 ∧ dn (x * y) < 18446744073709551616 ^ 100) := Lib.hid ⟨(hxs.mono (by omega)).1, (hxs.mono (by omega)).dn⟩
 have hx1 : x.den < 18446744073709551616 ^ 100 := w_up hx.2 (by omega)
 have hy1 : y.den < 18446744073709551616 ^ 100 := w_up hy.2 (by omega)
 have hxn : x.num.natAbs < 18446744073709551616 ^ 100 := w_up hx.1 (by omega)
 have hyn : y.num.natAbs < 18446744073709551616 ^ 100 := w_up hy.1 (by omega)
 have HDx : Hid (∀ W v, IsR W v x → Calls Tryz.prog 44 #[v] W (GaveV x.den W)) := Lib.hid (fun W v h => den_any x v W h hx1)
 have HDy : Hid (∀ W v, IsR W v y → Calls Tryz.prog 44 #[v] W (GaveV y.den W)) := Lib.hid (fun W v h => den_any y v W h hy1)
 have hx26 : x.den < 18446744073709551616 ^ 40 := w_up hx.2 hj
 have hy26 : y.den < 18446744073709551616 ^ 40 := w_up hy.2 hk
 have hxn26 : x.num.natAbs < 18446744073709551616 ^ 40 := w_up hx.1 hj
 have hyn26 : y.num.natAbs < 18446744073709551616 ^ 40 := w_up hy.1 hk
 have hxd0 := x.den_pos
 have hyd0 := y.den_pos
 obtain ⟨X, hXe⟩ : ∃ X, x * y = X := ⟨_, rfl⟩
 rw [hXe] at hX1 hX2 HXs ⊢
 obtain ⟨xd, hxd⟩ : ∃ D, x.den = D := ⟨_, rfl⟩
 obtain ⟨yd, hyd⟩ : ∃ D, y.den = D := ⟨_, rfl⟩
 obtain ⟨xn, hxn'⟩ : ∃ D, x.num.natAbs = D := ⟨_, rfl⟩
 obtain ⟨yn, hyn'⟩ : ∃ D, y.num.natAbs = D := ⟨_, rfl⟩
 obtain ⟨zs, hz⟩ : ∃ z, decide (x.num < 0) = z := ⟨_, rfl⟩
 obtain ⟨us, hu⟩ : ∃ u, decide (y.num < 0) = u := ⟨_, rfl⟩
 rw [hz] at hRa hX2 ⊢
 rw [hu] at hRb hX2 ⊢
 rw [hxn'] at h1
 rw [hyn'] at k1
 simp only [hxd, hyd, hxn', hyn'] at hX1 hx1 hy1 hxn hyn hx26 hy26 hxn26 hyn26 hxd0 hyd0 HDx HDy
 obtain ⟨G1, hG1⟩ : ∃ G, Nat.gcd xn yd = G := ⟨_, rfl⟩
 obtain ⟨G2, hG2⟩ : ∃ G, Nat.gcd yn xd = G := ⟨_, rfl⟩
 have HG1 : Hid (∀ W va vb, IsN W va xn → IsN W vb yd → TabB W → Calls Tryz.prog 20 #[va, vb] W (GaveV G1 W)) := Lib.hid (fun W va vb h1 h2 ht => by
  rw [← hG1]
  exact gcd_all xn yd va vb W h1 h2 hxn26 hy26 ht)
 have HG2 : Hid (∀ W va vb, IsN W va yn → IsN W vb xd → TabB W → Calls Tryz.prog 20 #[va, vb] W (GaveV G2 W)) := Lib.hid (fun W va vb h1 h2 ht => by
  rw [← hG2]
  exact gcd_all yn xd va vb W h1 h2 hyn26 hx26 ht)
 have hG10 : 0 < G1 := by rw [← hG1]; exact Nat.gcd_pos_of_pos_right _ hyd0
 have hG20 : 0 < G2 := by rw [← hG2]; exact Nat.gcd_pos_of_pos_right _ hxd0
 have hG1b : G1 < 18446744073709551616 ^ 100 := by rw [← hG1]; exact Nat.lt_of_le_of_lt (Nat.gcd_le_right _ hyd0) hy1
 have hG2b : G2 < 18446744073709551616 ^ 100 := by rw [← hG2]; exact Nat.lt_of_le_of_lt (Nat.gcd_le_right _ hxd0) hx1
 rw [hG1, hG2] at hX1
 obtain ⟨A1, hA1⟩ : ∃ D, xn / G1 = D := ⟨_, rfl⟩
 obtain ⟨A2, hA2⟩ : ∃ D, yn / G2 = D := ⟨_, rfl⟩
 obtain ⟨B1, hB1⟩ : ∃ D, xd / G2 = D := ⟨_, rfl⟩
 obtain ⟨B2, hB2⟩ : ∃ D, yd / G1 = D := ⟨_, rfl⟩
 have HA1 : Hid (∀ W va vb, IsN W va xn → IsN W vb G1 → Calls Tryz.prog 45 #[va, vb] W (GaveV A1 W)) := Lib.hid (fun W va vb h1 h2 => by
  rw [← hA1]
  exact over_any xn G1 va vb W h1 h2 hxn hG1b hG10)
 have HA2 : Hid (∀ W va vb, IsN W va yn → IsN W vb G2 → Calls Tryz.prog 45 #[va, vb] W (GaveV A2 W)) := Lib.hid (fun W va vb h1 h2 => by
  rw [← hA2]
  exact over_any yn G2 va vb W h1 h2 hyn hG2b hG20)
 have HB1 : Hid (∀ W va vb, IsN W va xd → IsN W vb G2 → Calls Tryz.prog 45 #[va, vb] W (GaveV B1 W)) := Lib.hid (fun W va vb h1 h2 => by
  rw [← hB1]
  exact over_any xd G2 va vb W h1 h2 hx1 hG2b hG20)
 have HB2 : Hid (∀ W va vb, IsN W va yd → IsN W vb G1 → Calls Tryz.prog 45 #[va, vb] W (GaveV B2 W)) := Lib.hid (fun W va vb h1 h2 => by
  rw [← hB2]
  exact over_any yd G1 va vb W h1 h2 hy1 hG1b hG10)
 have hA1b : A1 < 18446744073709551616 ^ 40 := by rw [← hA1]; exact Nat.lt_of_le_of_lt (Nat.div_le_self _ _) hxn26
 have hA2b : A2 < 18446744073709551616 ^ 40 := by rw [← hA2]; exact Nat.lt_of_le_of_lt (Nat.div_le_self _ _) hyn26
 have hB1b : B1 < 18446744073709551616 ^ 40 := by rw [← hB1]; exact Nat.lt_of_le_of_lt (Nat.div_le_self _ _) hx26
 have hB2b : B2 < 18446744073709551616 ^ 40 := by rw [← hB2]; exact Nat.lt_of_le_of_lt (Nat.div_le_self _ _) hy26
 rw [hA1, hA2, hB1, hB2] at hX1
 obtain ⟨NN, hNN⟩ : ∃ D, A1 * A2 = D := ⟨_, rfl⟩
 obtain ⟨DD, hDD⟩ : ∃ D, B1 * B2 = D := ⟨_, rfl⟩
 have up5 : ∀ {N : Nat}, N < 18446744073709551616 ^ 40 → N < 18446744073709551616 ^ 5000 := fun h => q100 5000 (w_up h (by omega)) (by omega)
 have HNN : Hid (∀ W va vb, IsN W va A1 → IsN W vb A2 → Calls Tryz.prog 37 #[va, vb] W (GaveV NN W)) := Lib.hid (fun W va vb h1 h2 => by
  rw [← hNN]
  exact (mul_any A1 A2 va vb W h1 h2 (up5 hA1b) (up5 hA2b)).mono fun e w' h => gaveV h)
 have HDD : Hid (∀ W va vb, IsN W va B1 → IsN W vb B2 → Calls Tryz.prog 37 #[va, vb] W (GaveV DD W)) := Lib.hid (fun W va vb h1 h2 => by
  rw [← hDD]
  exact (mul_any B1 B2 va vb W h1 h2 (up5 hB1b) (up5 hB2b)).mono fun e w' h => gaveV h)
 have hNN1 : NN < 18446744073709551616 ^ 100 := by rw [← hNN]; exact w_up (w_mul hA1b hA2b) (by omega)
 have hDD1 : DD < 18446744073709551616 ^ 100 := by rw [← hDD]; exact w_up (w_mul hB1b hB2b) (by omega)
 rw [hNN, hDD] at hX1
 have HX : Hid (∀ W va vb, IsN W va NN → IsN W vb DD → Calls Tryz.prog 47 #[.bool (!(zs == us)), va, vb] W (GaveR X W)) := Lib.hid (fun W va vb h1 h2 => made_any X (!(zs == us)) NN DD va vb W h1 h2 hNN1 hDD1 hX1.1 hX1.2 (fun h => hX2 (by rw [hX1.1]; exact h)))
 have HG1b := Lib.hid hG1b; have HG2b := Lib.hid hG2b; have HNN1 := Lib.hid hNN1
 have V0 := (((((Mq.refl w).rcons hRb).rcons hRa).cons k1 hyn).cons h1 hxn).three 33 33 33 #[.bool zs, .slice p n c, .slice p' n' c'] #[.bool us, .slice q m d, .slice q' m' d'] #[.bool false, .slice none 0 0, .slice none 0 0]
 obtain ⟨W0, hW0⟩ : ∃ W0, ((w.alloc (.cells #[.bool zs, .slice p n c, .slice p' n' c'] 33)).alloc (.cells #[.bool us, .slice q m d, .slice q' m' d'] 33)).alloc (.cells #[.bool false, .slice none 0 0, .slice none 0 0] 33) = W0 := ⟨_, rfl⟩
 rw [hW0] at V0
 have HW0 := Lib.hid hW0
 clear h1 h2 k1 k2 hRa hRb hx hy hj hk hxs hx1 hy1 hxn hyn hx26 hy26 hxn26 hyn26 hxd0 hyd0 hXe hxd hyd hxn' hyn' hz hu hG1 hG2 hG10 hG20 hG1b hG2b hA1 hA2 hB1 hB2 hA1b hA2b hB1b hB2b hNN hDD up5 hNN1 hDD1 hX1 hX2 hW0
 go_enter Tryz.func24, Tryz.ntmps24
 go_wp2_with fail
 rw [HW0.out]
 refine wp_region_inv 14 (fun a0 dj a W => ∃ vr0 vr1 vr2 vr3 vr4 vr5 vr6 vr7 vr8 vr9 vr10 vr11 : Value, a = puts a0 [(8, vr0), (9, vr1), (10, vr2), (11, vr3), (12, vr4), (13, vr5), (14, vr6), (15, vr7), (16, vr8), (17, vr9), (5, vr10), (6, vr11)] ∧ Below W0.heap.size W0 W ∧ (dj 0 = true → vr0 = .pointer (some ⟨w.heap.size, 1, none⟩)) ∧ (dj 1 = true → vr1 = .agg #[.slice p n c]) ∧ (dj 2 = true → vr2 = .agg #[.bool us, .slice q m d, .slice q' m' d']) ∧ (dj 3 = true → Nm W vr3 (yd)) ∧ (dj 4 = true → Nm W vr4 (G1)) ∧ (dj 5 = true → vr5 = .pointer (some ⟨w.heap.size + 1, 1, none⟩)) ∧ (dj 6 = true → vr6 = .agg #[.slice q m d]) ∧ (dj 7 = true → vr7 = .agg #[.bool zs, .slice p n c, .slice p' n' c']) ∧ (dj 8 = true → Nm W vr8 (xd)) ∧ (dj 9 = true → Nm W vr9 (G2)) ∧ (dj 10 = true → dj 12 = false → Bn W0 W vr10) ∧ (dj 11 = true → dj 13 = false → Bn W0 W vr11) ∧ (dj 12 = true → St W0 W vr10 vr4) ∧ (dj 13 = true → St W0 W vr11 vr9) ∧ (dj 10 = true → dj 11 = true → vr10 ≠ vr11)) (by kernel_rfl) (by kernel_rfl) (by kernel_rfl) ?_ ?_ ?_ ?_
 · intro dj hcl i hi1 hi2 hd j hj
   exact absurd (Nat.lt_of_lt_of_le hi2 (of_decide_eq_true (by kernel_rfl))) (Nat.not_lt.2 hi1)
 · refine ⟨undef, undef, undef, undef, undef, undef, undef, undef, undef, undef, undef, undef, (by simp only [pus]), (Below.refl _ _).drew, (fun h => by cases h), (fun h => by cases h), (fun h => by cases h), (fun h => by cases h), (fun h => by cases h), (fun h => by cases h), (fun h => by cases h), (fun h => by cases h), (fun h => by cases h), (fun h => by cases h), (fun h => by cases h), (fun h => by cases h), (fun h => by cases h), (fun h => by cases h), (fun h => by cases h)⟩
 · intro dj a W i hi hdi hcl hdep hI K hK
   obtain ⟨vr0, vr1, vr2, vr3, vr4, vr5, vr6, vr7, vr8, vr9, vr10, vr11, rfl, hB, p0, p1, p2, p3, p4, p5, p6, p7, p8, p9, p10, p11, p12, p13, q10_11⟩ := hI
   have V := V0.below hB
   obtain rfl | rfl | rfl | rfl | rfl | rfl | rfl | rfl | rfl | rfl | rfl | rfl | rfl | rfl : i = 0 ∨ i = 1 ∨ i = 2 ∨ i = 3 ∨ i = 4 ∨ i = 5 ∨ i = 6 ∨ i = 7 ∨ i = 8 ∨ i = 9 ∨ i = 10 ∨ i = 11 ∨ i = 12 ∨ i = 13 := by omega
   · simp only [pus]
     refine any_op (o := _) rfl rfl ?_
     go_wp2_with fail
     refine hK.out _ _ ?_
     exact ⟨.pointer (some ⟨w.heap.size, 1, none⟩), vr1, vr2, vr3, vr4, vr5, vr6, vr7, vr8, vr9, vr10, vr11, (by simp only [pus]), hB, (fun _ => rfl), p1, p2, p3, p4, p5, p6, p7, p8, p9, p10, p11, p12, p13, q10_11⟩
   · obtain rfl := p0 (hdep 0 (by kernel_rfl))
     simp only [pus]
     have c0 := V.c1 2 rfl
     refine any_op (o := _) rfl rfl ?_
     go_wp2_with fail
     refine hK.out _ _ ?_
     exact ⟨.pointer (some ⟨w.heap.size, 1, none⟩), .agg #[.slice p n c], vr2, vr3, vr4, vr5, vr6, vr7, vr8, vr9, vr10, vr11, (by simp only [pus]), hB, (fun _ => rfl), (fun _ => rfl), p2, p3, p4, p5, p6, p7, p8, p9, p10, p11, p12, p13, q10_11⟩
   · simp only [pus]
     have c0 := V.c0 1 rfl
     have c1 := V.c1 1 rfl
     have c2 := V.c2 1 rfl
     refine any_op (o := _) rfl rfl ?_
     go_wp2_with fail
     refine hK.out _ _ ?_
     exact ⟨vr0, vr1, .agg #[.bool us, .slice q m d, .slice q' m' d'], vr3, vr4, vr5, vr6, vr7, vr8, vr9, vr10, vr11, (by simp only [pus]), hB, p0, p1, (fun _ => rfl), p3, p4, p5, p6, p7, p8, p9, p10, p11, p12, p13, q10_11⟩
   · obtain rfl := p2 (hdep 2 (by kernel_rfl))
     simp only [pus]
     refine any_op (o := _) rfl rfl ?_
     have hC := Lib.hid (HDy.out W _ (V.rat 1 _ _ rfl))
     go_simp
     refine hC.out.mono ?_
     rintro e W2 ⟨x, y, z, rfl, hn, hb⟩
     refine hK.out _ _ ?_
     exact ⟨vr0, vr1, .agg #[.bool us, .slice q m d, .slice q' m' d'], .agg #[.slice x y z], vr4, vr5, vr6, vr7, vr8, vr9, vr10, vr11, (by simp only [pus]), hB.trans (hb.mono hB.size), p0, p1, (fun _ => rfl), (fun _ => ⟨⟨x, y, z, rfl⟩, hn⟩), (fun h => (p4 h).below hb), p5, p6, p7, (fun h => (p8 h).below hb), (fun h => (p9 h).below hb), (fun h h2 => (p10 h h2).below hb), (fun h h2 => (p11 h h2).below hb), (fun h => (p12 h).below hb), (fun h => (p13 h).below hb), q10_11⟩
   · obtain rfl := p1 (hdep 1 (by kernel_rfl))
     have k3 := p3 (hdep 3 (by kernel_rfl))
     obtain ⟨⟨x3, y3, z3, rfl⟩, n3⟩ := k3
     simp only [pus]
     refine any_op (o := _) rfl rfl ?_
     have hC := Lib.hid (HG1.out W _ _ (V.num 0 _ _ rfl).1 n3 (HTB.out W V.bel))
     go_simp
     refine hC.out.mono ?_
     rintro e W2 ⟨x, y, z, rfl, hn, hb⟩
     refine hK.out _ _ ?_
     exact ⟨vr0, .agg #[.slice p n c], vr2, .agg #[.slice x3 y3 z3], .agg #[.slice x y z], vr5, vr6, vr7, vr8, vr9, vr10, vr11, (by simp only [pus]), hB.trans (hb.mono hB.size), p0, (fun _ => rfl), p2, (fun _ => (show Nm _ _ _ from ⟨⟨x3, y3, z3, rfl⟩, n3⟩).below hb), (fun _ => ⟨⟨x, y, z, rfl⟩, hn⟩), p5, p6, p7, (fun h => (p8 h).below hb), (fun h => (p9 h).below hb), (fun h h2 => (p10 h h2).below hb), (fun h h2 => (p11 h h2).below hb), (fun h => absurd (hcl 12 4 (by kernel_rfl) h) (by rw [hdi]; simp)), (fun h => (p13 h).below hb), q10_11⟩
   · simp only [pus]
     refine any_op (o := _) rfl rfl ?_
     go_wp2_with fail
     refine hK.out _ _ ?_
     exact ⟨vr0, vr1, vr2, vr3, vr4, .pointer (some ⟨w.heap.size + 1, 1, none⟩), vr6, vr7, vr8, vr9, vr10, vr11, (by simp only [pus]), hB, p0, p1, p2, p3, p4, (fun _ => rfl), p6, p7, p8, p9, p10, p11, p12, p13, q10_11⟩
   · obtain rfl := p5 (hdep 5 (by kernel_rfl))
     simp only [pus]
     have c0 := V.c1 1 rfl
     refine any_op (o := _) rfl rfl ?_
     go_wp2_with fail
     refine hK.out _ _ ?_
     exact ⟨vr0, vr1, vr2, vr3, vr4, .pointer (some ⟨w.heap.size + 1, 1, none⟩), .agg #[.slice q m d], vr7, vr8, vr9, vr10, vr11, (by simp only [pus]), hB, p0, p1, p2, p3, p4, (fun _ => rfl), (fun _ => rfl), p7, p8, p9, p10, p11, p12, p13, q10_11⟩
   · simp only [pus]
     have c0 := V.c0 2 rfl
     have c1 := V.c1 2 rfl
     have c2 := V.c2 2 rfl
     refine any_op (o := _) rfl rfl ?_
     go_wp2_with fail
     refine hK.out _ _ ?_
     exact ⟨vr0, vr1, vr2, vr3, vr4, vr5, vr6, .agg #[.bool zs, .slice p n c, .slice p' n' c'], vr8, vr9, vr10, vr11, (by simp only [pus]), hB, p0, p1, p2, p3, p4, p5, p6, (fun _ => rfl), p8, p9, p10, p11, p12, p13, q10_11⟩
   · have k4 := p4 (hdep 4 (by kernel_rfl))
     obtain ⟨⟨x4, y4, z4, rfl⟩, n4⟩ := k4
     obtain rfl := p7 (hdep 7 (by kernel_rfl))
     simp only [pus]
     refine any_op (o := _) rfl rfl ?_
     have hC := Lib.hid (HDx.out W _ (V.rat 0 _ _ rfl))
     go_simp
     refine hC.out.mono ?_
     rintro e W2 ⟨x, y, z, rfl, hn, hb⟩
     refine hK.out _ _ ?_
     exact ⟨vr0, vr1, vr2, vr3, .agg #[.slice x4 y4 z4], vr5, vr6, .agg #[.bool zs, .slice p n c, .slice p' n' c'], .agg #[.slice x y z], vr9, vr10, vr11, (by simp only [pus]), hB.trans (hb.mono hB.size), p0, p1, p2, (fun h => (p3 h).below hb), (fun _ => (show Nm _ _ _ from ⟨⟨x4, y4, z4, rfl⟩, n4⟩).below hb), p5, p6, (fun _ => rfl), (fun _ => ⟨⟨x, y, z, rfl⟩, hn⟩), (fun h => (p9 h).below hb), (fun h h2 => (p10 h h2).below hb), (fun h h2 => (p11 h h2).below hb), (fun h => (p12 h).below hb), (fun h => (p13 h).below hb), q10_11⟩
   · obtain rfl := p6 (hdep 6 (by kernel_rfl))
     have k8 := p8 (hdep 8 (by kernel_rfl))
     obtain ⟨⟨x8, y8, z8, rfl⟩, n8⟩ := k8
     simp only [pus]
     refine any_op (o := _) rfl rfl ?_
     have hC := Lib.hid (HG2.out W _ _ (V.num 1 _ _ rfl).1 n8 (HTB.out W V.bel))
     go_simp
     refine hC.out.mono ?_
     rintro e W2 ⟨x, y, z, rfl, hn, hb⟩
     refine hK.out _ _ ?_
     exact ⟨vr0, vr1, vr2, vr3, vr4, vr5, .agg #[.slice q m d], vr7, .agg #[.slice x8 y8 z8], .agg #[.slice x y z], vr10, vr11, (by simp only [pus]), hB.trans (hb.mono hB.size), p0, p1, p2, (fun h => (p3 h).below hb), (fun h => (p4 h).below hb), p5, (fun _ => rfl), p7, (fun _ => (show Nm _ _ _ from ⟨⟨x8, y8, z8, rfl⟩, n8⟩).below hb), (fun _ => ⟨⟨x, y, z, rfl⟩, hn⟩), (fun h h2 => (p10 h h2).below hb), (fun h h2 => (p11 h h2).below hb), (fun h => (p12 h).below hb), (fun h => absurd (hcl 13 9 (by kernel_rfl) h) (by rw [hdi]; simp)), q10_11⟩
   · simp only [pus]
     refine any_op (o := _) rfl rfl ?_
     have hb := below_lit W (.cells #[.slice none 0 0] 31)
     have hnb : Bn W0 (W.alloc (.cells #[.slice none 0 0] 31)) (.pointer (some ⟨W.heap.size, 0, none⟩)) := ⟨_, rfl, Blk.new W _ _, hB.size⟩
     go_wp2_with fail
     refine hK.out _ _ ?_
     exact ⟨vr0, vr1, vr2, vr3, vr4, vr5, vr6, vr7, vr8, vr9, .pointer (some ⟨W.heap.size, 0, none⟩), vr11, (by simp only [pus]), hB.trans (hb.mono hB.size), p0, p1, p2, (fun h => (p3 h).below hb), (fun h => (p4 h).below hb), p5, p6, p7, (fun h => (p8 h).below hb), (fun h => (p9 h).below hb), (fun _ _ => hnb), (fun h h2 => (p11 h h2).below hb), (fun h => absurd (hcl 12 10 (by kernel_rfl) h) (by rw [hdi]; simp)), (fun h => (p13 h).below hb), (fun _ h e => (box_ne (p11 h) (p13)) e.symm)⟩
   · simp only [pus]
     refine any_op (o := _) rfl rfl ?_
     have hb := below_lit W (.cells #[.slice none 0 0] 31)
     have hnb : Bn W0 (W.alloc (.cells #[.slice none 0 0] 31)) (.pointer (some ⟨W.heap.size, 0, none⟩)) := ⟨_, rfl, Blk.new W _ _, hB.size⟩
     go_wp2_with fail
     refine hK.out _ _ ?_
     exact ⟨vr0, vr1, vr2, vr3, vr4, vr5, vr6, vr7, vr8, vr9, vr10, .pointer (some ⟨W.heap.size, 0, none⟩), (by simp only [pus]), hB.trans (hb.mono hB.size), p0, p1, p2, (fun h => (p3 h).below hb), (fun h => (p4 h).below hb), p5, p6, p7, (fun h => (p8 h).below hb), (fun h => (p9 h).below hb), (fun h h2 => (p10 h h2).below hb), (fun _ _ => hnb), (fun h => (p12 h).below hb), (fun h => absurd (hcl 13 11 (by kernel_rfl) h) (by rw [hdi]; simp)), (fun h _ e => (box_ne (p10 h) (p12)) e)⟩
   · obtain ⟨b, rfl, hk, hl⟩ := p10 (hdep 10 (by kernel_rfl)) hdi
     have hne11 : dj 11 = true → vr11 ≠ .pointer (some ⟨b, 0, none⟩) := fun h e => q10_11 (hdep 10 (by kernel_rfl)) h e.symm
     obtain ⟨⟨x, y, z, rfl⟩, hn⟩ := p4 (hdep 4 (by kernel_rfl))
     simp only [pus]
     have c0 := hk.cell 0; have c1 := hk.frozen 0
     simp only [List.getElem?_toArray, List.getElem?_cons_zero] at c0
     refine any_op (o := _) rfl rfl ?_
     go_wp2_with fail
     refine hK.out _ _ ?_
     exact ⟨vr0, vr1, vr2, vr3, .agg #[.slice x y z], vr5, vr6, vr7, vr8, vr9, .pointer (some ⟨b, 0, none⟩), vr11, (by simp only [pus]), (hB.setCell (p := ⟨b, 0, none⟩) hl _), p0, p1, p2, (fun h => (p3 h).put hk), (fun h => (p4 h).put hk), p5, p6, p7, (fun h => (p8 h).put hk), (fun h => (p9 h).put hk), (fun _ h => by rw [upd_self] at h; cases h), (fun h h2 => (p11 h h2).far (hne11 h)), (fun _ => ⟨b, x, y, z, rfl, rfl, hk.set_ 0 _, hl⟩), (fun h => (p13 h).far (hne11 (hcl 13 11 (by kernel_rfl) h))), q10_11⟩
   · obtain ⟨b, rfl, hk, hl⟩ := p11 (hdep 11 (by kernel_rfl)) hdi
     have hne10 : dj 10 = true → vr10 ≠ .pointer (some ⟨b, 0, none⟩) := fun h e => q10_11 h (hdep 11 (by kernel_rfl)) e
     obtain ⟨⟨x, y, z, rfl⟩, hn⟩ := p9 (hdep 9 (by kernel_rfl))
     simp only [pus]
     have c0 := hk.cell 0; have c1 := hk.frozen 0
     simp only [List.getElem?_toArray, List.getElem?_cons_zero] at c0
     refine any_op (o := _) rfl rfl ?_
     go_wp2_with fail
     refine hK.out _ _ ?_
     exact ⟨vr0, vr1, vr2, vr3, vr4, vr5, vr6, vr7, vr8, .agg #[.slice x y z], vr10, .pointer (some ⟨b, 0, none⟩), (by simp only [pus]), (hB.setCell (p := ⟨b, 0, none⟩) hl _), p0, p1, p2, (fun h => (p3 h).put hk), (fun h => (p4 h).put hk), p5, p6, p7, (fun h => (p8 h).put hk), (fun h => (p9 h).put hk), (fun h h2 => (p10 h h2).far (hne10 h)), (fun _ h => by rw [upd_self] at h; cases h), (fun h => (p12 h).far (hne10 (hcl 12 10 (by kernel_rfl) h))), (fun _ => ⟨b, x, y, z, rfl, rfl, hk.set_ 0 _, hl⟩), q10_11⟩
 · intro dj a W1 hd hI
   obtain ⟨vr0, vr1, vr2, vr3, vr4, vr5, vr6, vr7, vr8, vr9, vr10, vr11, rfl, hB, p0, p1, p2, p3, p4, p5, p6, p7, p8, p9, p10, p11, p12, p13, q10_11⟩ := hI
   have V := V0.below hB
   obtain rfl := p0 (hd 0 (by omega))
   obtain rfl := p1 (hd 1 (by omega))
   obtain rfl := p2 (hd 2 (by omega))
   obtain ⟨⟨xr3, yr3, zr3, rfl⟩, nr3⟩ := p3 (hd 3 (by omega))
   obtain ⟨⟨xr4, yr4, zr4, rfl⟩, nr4⟩ := p4 (hd 4 (by omega))
   obtain rfl := p5 (hd 5 (by omega))
   obtain rfl := p6 (hd 6 (by omega))
   obtain rfl := p7 (hd 7 (by omega))
   obtain ⟨⟨xr8, yr8, zr8, rfl⟩, nr8⟩ := p8 (hd 8 (by omega))
   obtain ⟨⟨xr9, yr9, zr9, rfl⟩, nr9⟩ := p9 (hd 9 (by omega))
   obtain ⟨br12, x9, y9, z9, rfl, e9, kr12, lr12⟩ := p12 (hd 12 (by omega))
   cases e9
   obtain ⟨br13, x9, y9, z9, rfl, e9, kr13, lr13⟩ := p13 (hd 13 (by omega))
   cases e9
   have ner12_13 : br12 ≠ br13 := fun e => q10_11 (hd 10 (by omega)) (hd 11 (by omega)) (by rw [e])
   simp only [pus]
   show wpAny Tryz.prog .any _ _ 0 #[true, true, true, true, true, true, true, true, true, true, true, true, true, true] _ _
   have V1 := (((V.cons nr9 HG2b.out).cons nr4 HG1b.out).addbox kr12 (Nat.le_trans V0.bel.size lr12)).addbox kr13 (Nat.le_trans V0.bel.size lr13)
   clear V V0 kr12 kr13 nr3 nr8
   refine ⟨by kernel_rfl, ?_⟩
   go_wp2_with fail
   refine wp_region_inv 11 (fun a0 dj a W => ∃ vq0 vq1 vq2 vq3 vq4 vq5 vq6 vq7 vq8 vq9 : Value, a = puts a0 [(18, vq0), (19, vq1), (20, vq2), (21, vq3), (22, vq4), (23, vq5), (24, vq6), (25, vq7), (26, vq8), (7, vq9)] ∧ Below W1.heap.size W1 W ∧ (dj 0 = true → vq0 = .pointer (some ⟨w.heap.size, 1, none⟩)) ∧ (dj 1 = true → vq1 = .agg #[.slice p n c]) ∧ (dj 2 = true → vq2 = .agg #[.slice xr4 yr4 zr4]) ∧ (dj 3 = true → Nm W vq3 (A1)) ∧ (dj 4 = true → vq4 = .pointer (some ⟨w.heap.size + 1, 1, none⟩)) ∧ (dj 5 = true → vq5 = .agg #[.slice q m d]) ∧ (dj 6 = true → vq6 = .agg #[.slice xr9 yr9 zr9]) ∧ (dj 7 = true → Nm W vq7 (A2)) ∧ (dj 8 = true → Nm W vq8 (NN)) ∧ (dj 9 = true → dj 10 = false → Bn W1 W vq9) ∧ (dj 10 = true → St W1 W vq9 vq8)) (by kernel_rfl) (by kernel_rfl) (by kernel_rfl) ?_ ?_ ?_ ?_
   · intro dj hcl i hi1 hi2 hd j hj
     exact absurd (Nat.lt_of_lt_of_le hi2 (of_decide_eq_true (by kernel_rfl))) (Nat.not_lt.2 hi1)
   · refine ⟨undef, undef, undef, undef, undef, undef, undef, undef, undef, undef, (by simp only [pus]), (Below.refl _ _).drew, (fun h => by cases h), (fun h => by cases h), (fun h => by cases h), (fun h => by cases h), (fun h => by cases h), (fun h => by cases h), (fun h => by cases h), (fun h => by cases h), (fun h => by cases h), (fun h => by cases h), (fun h => by cases h)⟩
   · intro dj a W i hi hdi hcl hdep hI K hK
     obtain ⟨vq0, vq1, vq2, vq3, vq4, vq5, vq6, vq7, vq8, vq9, rfl, hB, p0, p1, p2, p3, p4, p5, p6, p7, p8, p9, p10⟩ := hI
     have V := V1.below hB
     obtain rfl | rfl | rfl | rfl | rfl | rfl | rfl | rfl | rfl | rfl | rfl : i = 0 ∨ i = 1 ∨ i = 2 ∨ i = 3 ∨ i = 4 ∨ i = 5 ∨ i = 6 ∨ i = 7 ∨ i = 8 ∨ i = 9 ∨ i = 10 := by omega
     · simp only [pus]
       refine any_op (o := _) rfl rfl ?_
       go_wp2_with fail
       refine hK.out _ _ ?_
       exact ⟨.pointer (some ⟨w.heap.size, 1, none⟩), vq1, vq2, vq3, vq4, vq5, vq6, vq7, vq8, vq9, (by simp only [pus]), hB, (fun _ => rfl), p1, p2, p3, p4, p5, p6, p7, p8, p9, p10⟩
     · obtain rfl := p0 (hdep 0 (by kernel_rfl))
       simp only [pus]
       have c0 := V.c1 4 rfl
       refine any_op (o := _) rfl rfl ?_
       go_wp2_with fail
       refine hK.out _ _ ?_
       exact ⟨.pointer (some ⟨w.heap.size, 1, none⟩), .agg #[.slice p n c], vq2, vq3, vq4, vq5, vq6, vq7, vq8, vq9, (by simp only [pus]), hB, (fun _ => rfl), (fun _ => rfl), p2, p3, p4, p5, p6, p7, p8, p9, p10⟩
     · simp only [pus]
       have c0 := V.n0 1 rfl
       refine any_op (o := _) rfl rfl ?_
       go_wp2_with fail
       refine hK.out _ _ ?_
       exact ⟨vq0, vq1, .agg #[.slice xr4 yr4 zr4], vq3, vq4, vq5, vq6, vq7, vq8, vq9, (by simp only [pus]), hB, p0, p1, (fun _ => rfl), p3, p4, p5, p6, p7, p8, p9, p10⟩
     · obtain rfl := p1 (hdep 1 (by kernel_rfl))
       obtain rfl := p2 (hdep 2 (by kernel_rfl))
       simp only [pus]
       refine any_op (o := _) rfl rfl ?_
       have hC := Lib.hid (HA1.out W _ _ (V.num 2 _ _ rfl).1 (V.num 0 _ _ rfl).1)
       go_simp
       refine hC.out.mono ?_
       rintro e W2 ⟨x, y, z, rfl, hn, hb⟩
       refine hK.out _ _ ?_
       exact ⟨vq0, .agg #[.slice p n c], .agg #[.slice xr4 yr4 zr4], .agg #[.slice x y z], vq4, vq5, vq6, vq7, vq8, vq9, (by simp only [pus]), hB.trans (hb.mono hB.size), p0, (fun _ => rfl), (fun _ => rfl), (fun _ => ⟨⟨x, y, z, rfl⟩, hn⟩), p4, p5, p6, (fun h => (p7 h).below hb), (fun h => (p8 h).below hb), (fun h h2 => (p9 h h2).below hb), (fun h => (p10 h).below hb)⟩
     · simp only [pus]
       refine any_op (o := _) rfl rfl ?_
       go_wp2_with fail
       refine hK.out _ _ ?_
       exact ⟨vq0, vq1, vq2, vq3, .pointer (some ⟨w.heap.size + 1, 1, none⟩), vq5, vq6, vq7, vq8, vq9, (by simp only [pus]), hB, p0, p1, p2, p3, (fun _ => rfl), p5, p6, p7, p8, p9, p10⟩
     · obtain rfl := p4 (hdep 4 (by kernel_rfl))
       simp only [pus]
       have c0 := V.c1 3 rfl
       refine any_op (o := _) rfl rfl ?_
       go_wp2_with fail
       refine hK.out _ _ ?_
       exact ⟨vq0, vq1, vq2, vq3, .pointer (some ⟨w.heap.size + 1, 1, none⟩), .agg #[.slice q m d], vq6, vq7, vq8, vq9, (by simp only [pus]), hB, p0, p1, p2, p3, (fun _ => rfl), (fun _ => rfl), p6, p7, p8, p9, p10⟩
     · simp only [pus]
       have c0 := V.n0 0 rfl
       refine any_op (o := _) rfl rfl ?_
       go_wp2_with fail
       refine hK.out _ _ ?_
       exact ⟨vq0, vq1, vq2, vq3, vq4, vq5, .agg #[.slice xr9 yr9 zr9], vq7, vq8, vq9, (by simp only [pus]), hB, p0, p1, p2, p3, p4, p5, (fun _ => rfl), p7, p8, p9, p10⟩
     · have k3 := p3 (hdep 3 (by kernel_rfl))
       obtain ⟨⟨x3, y3, z3, rfl⟩, n3⟩ := k3
       obtain rfl := p5 (hdep 5 (by kernel_rfl))
       obtain rfl := p6 (hdep 6 (by kernel_rfl))
       simp only [pus]
       refine any_op (o := _) rfl rfl ?_
       have hC := Lib.hid (HA2.out W _ _ (V.num 3 _ _ rfl).1 (V.num 1 _ _ rfl).1)
       go_simp
       refine hC.out.mono ?_
       rintro e W2 ⟨x, y, z, rfl, hn, hb⟩
       refine hK.out _ _ ?_
       exact ⟨vq0, vq1, vq2, .agg #[.slice x3 y3 z3], vq4, .agg #[.slice q m d], .agg #[.slice xr9 yr9 zr9], .agg #[.slice x y z], vq8, vq9, (by simp only [pus]), hB.trans (hb.mono hB.size), p0, p1, p2, (fun _ => (show Nm _ _ _ from ⟨⟨x3, y3, z3, rfl⟩, n3⟩).below hb), p4, (fun _ => rfl), (fun _ => rfl), (fun _ => ⟨⟨x, y, z, rfl⟩, hn⟩), (fun h => (p8 h).below hb), (fun h h2 => (p9 h h2).below hb), (fun h => (p10 h).below hb)⟩
     · have k3 := p3 (hdep 3 (by kernel_rfl))
       obtain ⟨⟨x3, y3, z3, rfl⟩, n3⟩ := k3
       have k7 := p7 (hdep 7 (by kernel_rfl))
       obtain ⟨⟨x7, y7, z7, rfl⟩, n7⟩ := k7
       simp only [pus]
       refine any_op (o := _) rfl rfl ?_
       have hC := Lib.hid (HNN.out W _ _ n3 n7)
       go_simp
       refine hC.out.mono ?_
       rintro e W2 ⟨x, y, z, rfl, hn, hb⟩
       refine hK.out _ _ ?_
       exact ⟨vq0, vq1, vq2, .agg #[.slice x3 y3 z3], vq4, vq5, vq6, .agg #[.slice x7 y7 z7], .agg #[.slice x y z], vq9, (by simp only [pus]), hB.trans (hb.mono hB.size), p0, p1, p2, (fun _ => (show Nm _ _ _ from ⟨⟨x3, y3, z3, rfl⟩, n3⟩).below hb), p4, p5, p6, (fun _ => (show Nm _ _ _ from ⟨⟨x7, y7, z7, rfl⟩, n7⟩).below hb), (fun _ => ⟨⟨x, y, z, rfl⟩, hn⟩), (fun h h2 => (p9 h h2).below hb), (fun h => absurd (hcl 10 8 (by kernel_rfl) h) (by rw [hdi]; simp))⟩
     · simp only [pus]
       refine any_op (o := _) rfl rfl ?_
       have hb := below_lit W (.cells #[.slice none 0 0] 31)
       have hnb : Bn W1 (W.alloc (.cells #[.slice none 0 0] 31)) (.pointer (some ⟨W.heap.size, 0, none⟩)) := ⟨_, rfl, Blk.new W _ _, hB.size⟩
       go_wp2_with fail
       refine hK.out _ _ ?_
       exact ⟨vq0, vq1, vq2, vq3, vq4, vq5, vq6, vq7, vq8, .pointer (some ⟨W.heap.size, 0, none⟩), (by simp only [pus]), hB.trans (hb.mono hB.size), p0, p1, p2, (fun h => (p3 h).below hb), p4, p5, p6, (fun h => (p7 h).below hb), (fun h => (p8 h).below hb), (fun _ _ => hnb), (fun h => absurd (hcl 10 9 (by kernel_rfl) h) (by rw [hdi]; simp))⟩
     · obtain ⟨b, rfl, hk, hl⟩ := p9 (hdep 9 (by kernel_rfl)) hdi
       obtain ⟨⟨x, y, z, rfl⟩, hn⟩ := p8 (hdep 8 (by kernel_rfl))
       simp only [pus]
       have c0 := hk.cell 0; have c1 := hk.frozen 0
       simp only [List.getElem?_toArray, List.getElem?_cons_zero] at c0
       refine any_op (o := _) rfl rfl ?_
       go_wp2_with fail
       refine hK.out _ _ ?_
       exact ⟨vq0, vq1, vq2, vq3, vq4, vq5, vq6, vq7, .agg #[.slice x y z], .pointer (some ⟨b, 0, none⟩), (by simp only [pus]), (hB.setCell (p := ⟨b, 0, none⟩) hl _), p0, p1, p2, (fun h => (p3 h).put hk), p4, p5, p6, (fun h => (p7 h).put hk), (fun h => (p8 h).put hk), (fun _ h => by rw [upd_self] at h; cases h), (fun _ => ⟨b, x, y, z, rfl, rfl, hk.set_ 0 _, hl⟩)⟩
   · intro dj a W2 hd hI
     obtain ⟨vq0, vq1, vq2, vq3, vq4, vq5, vq6, vq7, vq8, vq9, rfl, hB, p0, p1, p2, p3, p4, p5, p6, p7, p8, p9, p10⟩ := hI
     have V := V1.below hB
     obtain rfl := p0 (hd 0 (by omega))
     obtain rfl := p1 (hd 1 (by omega))
     obtain rfl := p2 (hd 2 (by omega))
     obtain ⟨⟨xq3, yq3, zq3, rfl⟩, nq3⟩ := p3 (hd 3 (by omega))
     obtain rfl := p4 (hd 4 (by omega))
     obtain rfl := p5 (hd 5 (by omega))
     obtain rfl := p6 (hd 6 (by omega))
     obtain ⟨⟨xq7, yq7, zq7, rfl⟩, nq7⟩ := p7 (hd 7 (by omega))
     obtain ⟨⟨xq8, yq8, zq8, rfl⟩, nq8⟩ := p8 (hd 8 (by omega))
     obtain ⟨bq10, x9, y9, z9, rfl, e9, kq10, lq10⟩ := p10 (hd 10 (by omega))
     cases e9
     simp only [pus]
     show wpAny Tryz.prog .any _ _ 0 #[true, true, true, true, true, true, true, true, true, true, true] _ _
     have V2 := (V.cons nq8 HNN1.out).addbox kq10 (Nat.le_trans V1.bel.size lq10)
     clear V V1 kq10 nq3 nq7
     refine ⟨by kernel_rfl, ?_⟩
     go_wp2_with fail
     refine wp_region_inv 16 (fun a0 dj a W => ∃ vs0 vs1 vs2 vs3 vs4 vs5 vs6 vs7 vs8 vs9 vs10 vs11 vs12 vs13 vs14 vs15 : Value, a = puts a0 [(27, vs0), (28, vs1), (29, vs2), (30, vs3), (31, vs4), (32, vs5), (33, vs6), (34, vs7), (35, vs8), (36, vs9), (37, vs10), (38, vs11), (39, vs12), (40, vs13), (41, vs14), (42, vs15)] ∧ Below W2.heap.size W2 W ∧ (dj 0 = true → vs0 = .pointer (some ⟨w.heap.size, 0, none⟩)) ∧ (dj 1 = true → vs1 = .bool zs) ∧ (dj 2 = true → vs2 = .pointer (some ⟨w.heap.size + 1, 0, none⟩)) ∧ (dj 3 = true → vs3 = .bool us) ∧ (dj 4 = true → vs4 = .bool (!(zs == us))) ∧ (dj 5 = true → vs5 = .agg #[.slice xq8 yq8 zq8]) ∧ (dj 6 = true → vs6 = .agg #[.bool zs, .slice p n c, .slice p' n' c']) ∧ (dj 7 = true → Nm W vs7 (xd)) ∧ (dj 8 = true → vs8 = .agg #[.slice xr9 yr9 zr9]) ∧ (dj 9 = true → Nm W vs9 (B1)) ∧ (dj 10 = true → vs10 = .agg #[.bool us, .slice q m d, .slice q' m' d']) ∧ (dj 11 = true → Nm W vs11 (yd)) ∧ (dj 12 = true → vs12 = .agg #[.slice xr4 yr4 zr4]) ∧ (dj 13 = true → Nm W vs13 (B2)) ∧ (dj 14 = true → Nm W vs14 (DD)) ∧ (dj 15 = true → IsR W vs15 (X))) (by kernel_rfl) (by kernel_rfl) (by kernel_rfl) ?_ ?_ ?_ ?_
     · intro dj hcl i hi1 hi2 hd j hj
       have hi2 := Nat.lt_of_lt_of_le hi2 (show _ ≤ 17 from of_decide_eq_true (by kernel_rfl))
       obtain rfl : i = 16 := by omega
       · have e15 : dj 15 = true := hd 15 (by kernel_rfl)
         have e0 : dj 0 = true := hd 0 (by kernel_rfl)
         have e1 : dj 1 = true := hd 1 (by kernel_rfl)
         have e2 : dj 2 = true := hd 2 (by kernel_rfl)
         have e3 : dj 3 = true := hd 3 (by kernel_rfl)
         have e4 : dj 4 = true := hd 4 (by kernel_rfl)
         have e5 : dj 5 = true := hd 5 (by kernel_rfl)
         have e6 : dj 6 = true := hd 6 (by kernel_rfl)
         have e7 : dj 7 = true := hd 7 (by kernel_rfl)
         have e8 : dj 8 = true := hd 8 (by kernel_rfl)
         have e9 : dj 9 = true := hd 9 (by kernel_rfl)
         have e10 : dj 10 = true := hd 10 (by kernel_rfl)
         have e11 : dj 11 = true := hd 11 (by kernel_rfl)
         have e12 : dj 12 = true := hd 12 (by kernel_rfl)
         have e13 : dj 13 = true := hd 13 (by kernel_rfl)
         have e14 : dj 14 = true := hd 14 (by kernel_rfl)
         obtain rfl | rfl | rfl | rfl | rfl | rfl | rfl | rfl | rfl | rfl | rfl | rfl | rfl | rfl | rfl | rfl : j = 0 ∨ j = 1 ∨ j = 2 ∨ j = 3 ∨ j = 4 ∨ j = 5 ∨ j = 6 ∨ j = 7 ∨ j = 8 ∨ j = 9 ∨ j = 10 ∨ j = 11 ∨ j = 12 ∨ j = 13 ∨ j = 14 ∨ j = 15 := by omega
         · exact e0
         · exact e1
         · exact e2
         · exact e3
         · exact e4
         · exact e5
         · exact e6
         · exact e7
         · exact e8
         · exact e9
         · exact e10
         · exact e11
         · exact e12
         · exact e13
         · exact e14
         · exact e15
     · refine ⟨undef, undef, undef, undef, undef, undef, undef, undef, undef, undef, undef, undef, undef, undef, undef, undef, (by simp only [pus]), (Below.refl _ _).drew, (fun h => by cases h), (fun h => by cases h), (fun h => by cases h), (fun h => by cases h), (fun h => by cases h), (fun h => by cases h), (fun h => by cases h), (fun h => by cases h), (fun h => by cases h), (fun h => by cases h), (fun h => by cases h), (fun h => by cases h), (fun h => by cases h), (fun h => by cases h), (fun h => by cases h), (fun h => by cases h)⟩
     · intro dj a W i hi hdi hcl hdep hI K hK
       obtain ⟨vs0, vs1, vs2, vs3, vs4, vs5, vs6, vs7, vs8, vs9, vs10, vs11, vs12, vs13, vs14, vs15, rfl, hB, p0, p1, p2, p3, p4, p5, p6, p7, p8, p9, p10, p11, p12, p13, p14, p15⟩ := hI
       have V := V2.below hB
       obtain rfl | rfl | rfl | rfl | rfl | rfl | rfl | rfl | rfl | rfl | rfl | rfl | rfl | rfl | rfl | rfl : i = 0 ∨ i = 1 ∨ i = 2 ∨ i = 3 ∨ i = 4 ∨ i = 5 ∨ i = 6 ∨ i = 7 ∨ i = 8 ∨ i = 9 ∨ i = 10 ∨ i = 11 ∨ i = 12 ∨ i = 13 ∨ i = 14 ∨ i = 15 := by omega
       · simp only [pus]
         refine any_op (o := _) rfl rfl ?_
         go_wp2_with fail
         refine hK.out _ _ ?_
         exact ⟨.pointer (some ⟨w.heap.size, 0, none⟩), vs1, vs2, vs3, vs4, vs5, vs6, vs7, vs8, vs9, vs10, vs11, vs12, vs13, vs14, vs15, (by simp only [pus]), hB, (fun _ => rfl), p1, p2, p3, p4, p5, p6, p7, p8, p9, p10, p11, p12, p13, p14, p15⟩
       · obtain rfl := p0 (hdep 0 (by kernel_rfl))
         simp only [pus]
         have c0 := V.c0 5 rfl
         refine any_op (o := _) rfl rfl ?_
         go_wp2_with fail
         refine hK.out _ _ ?_
         exact ⟨.pointer (some ⟨w.heap.size, 0, none⟩), .bool zs, vs2, vs3, vs4, vs5, vs6, vs7, vs8, vs9, vs10, vs11, vs12, vs13, vs14, vs15, (by simp only [pus]), hB, (fun _ => rfl), (fun _ => rfl), p2, p3, p4, p5, p6, p7, p8, p9, p10, p11, p12, p13, p14, p15⟩
       · simp only [pus]
         refine any_op (o := _) rfl rfl ?_
         go_wp2_with fail
         refine hK.out _ _ ?_
         exact ⟨vs0, vs1, .pointer (some ⟨w.heap.size + 1, 0, none⟩), vs3, vs4, vs5, vs6, vs7, vs8, vs9, vs10, vs11, vs12, vs13, vs14, vs15, (by simp only [pus]), hB, p0, p1, (fun _ => rfl), p3, p4, p5, p6, p7, p8, p9, p10, p11, p12, p13, p14, p15⟩
       · obtain rfl := p2 (hdep 2 (by kernel_rfl))
         simp only [pus]
         have c0 := V.c0 4 rfl
         refine any_op (o := _) rfl rfl ?_
         go_wp2_with fail
         refine hK.out _ _ ?_
         exact ⟨vs0, vs1, .pointer (some ⟨w.heap.size + 1, 0, none⟩), .bool us, vs4, vs5, vs6, vs7, vs8, vs9, vs10, vs11, vs12, vs13, vs14, vs15, (by simp only [pus]), hB, p0, p1, (fun _ => rfl), (fun _ => rfl), p4, p5, p6, p7, p8, p9, p10, p11, p12, p13, p14, p15⟩
       · obtain rfl := p1 (hdep 1 (by kernel_rfl))
         obtain rfl := p3 (hdep 3 (by kernel_rfl))
         simp only [pus]
         refine any_op (o := _) rfl rfl ?_
         go_wp2_with fail
         refine hK.out _ _ ?_
         exact ⟨vs0, .bool zs, vs2, .bool us, .bool (!(zs == us)), vs5, vs6, vs7, vs8, vs9, vs10, vs11, vs12, vs13, vs14, vs15, (by simp only [pus]), hB, p0, (fun _ => rfl), p2, (fun _ => rfl), (fun _ => rfl), p5, p6, p7, p8, p9, p10, p11, p12, p13, p14, p15⟩
       · simp only [pus]
         have c0 := V.n0 0 rfl
         refine any_op (o := _) rfl rfl ?_
         go_wp2_with fail
         refine hK.out _ _ ?_
         exact ⟨vs0, vs1, vs2, vs3, vs4, .agg #[.slice xq8 yq8 zq8], vs6, vs7, vs8, vs9, vs10, vs11, vs12, vs13, vs14, vs15, (by simp only [pus]), hB, p0, p1, p2, p3, p4, (fun _ => rfl), p6, p7, p8, p9, p10, p11, p12, p13, p14, p15⟩
       · simp only [pus]
         have c0 := V.c0 5 rfl
         have c1 := V.c1 5 rfl
         have c2 := V.c2 5 rfl
         refine any_op (o := _) rfl rfl ?_
         go_wp2_with fail
         refine hK.out _ _ ?_
         exact ⟨vs0, vs1, vs2, vs3, vs4, vs5, .agg #[.bool zs, .slice p n c, .slice p' n' c'], vs7, vs8, vs9, vs10, vs11, vs12, vs13, vs14, vs15, (by simp only [pus]), hB, p0, p1, p2, p3, p4, p5, (fun _ => rfl), p7, p8, p9, p10, p11, p12, p13, p14, p15⟩
       · obtain rfl := p6 (hdep 6 (by kernel_rfl))
         simp only [pus]
         refine any_op (o := _) rfl rfl ?_
         have hC := Lib.hid (HDx.out W _ (V.rat 0 _ _ rfl))
         go_simp
         refine hC.out.mono ?_
         rintro e W2 ⟨x, y, z, rfl, hn, hb⟩
         refine hK.out _ _ ?_
         exact ⟨vs0, vs1, vs2, vs3, vs4, vs5, .agg #[.bool zs, .slice p n c, .slice p' n' c'], .agg #[.slice x y z], vs8, vs9, vs10, vs11, vs12, vs13, vs14, vs15, (by simp only [pus]), hB.trans (hb.mono hB.size), p0, p1, p2, p3, p4, p5, (fun _ => rfl), (fun _ => ⟨⟨x, y, z, rfl⟩, hn⟩), p8, (fun h => (p9 h).below hb), p10, (fun h => (p11 h).below hb), p12, (fun h => (p13 h).below hb), (fun h => (p14 h).below hb), (fun h => (p15 h).below hb (Nat.le_refl _))⟩
       · simp only [pus]
         have c0 := V.n0 1 rfl
         refine any_op (o := _) rfl rfl ?_
         go_wp2_with fail
         refine hK.out _ _ ?_
         exact ⟨vs0, vs1, vs2, vs3, vs4, vs5, vs6, vs7, .agg #[.slice xr9 yr9 zr9], vs9, vs10, vs11, vs12, vs13, vs14, vs15, (by simp only [pus]), hB, p0, p1, p2, p3, p4, p5, p6, p7, (fun _ => rfl), p9, p10, p11, p12, p13, p14, p15⟩
       · have k7 := p7 (hdep 7 (by kernel_rfl))
         obtain ⟨⟨x7, y7, z7, rfl⟩, n7⟩ := k7
         obtain rfl := p8 (hdep 8 (by kernel_rfl))
         simp only [pus]
         refine any_op (o := _) rfl rfl ?_
         have hC := Lib.hid (HB1.out W _ _ n7 (V.num 2 _ _ rfl).1)
         go_simp
         refine hC.out.mono ?_
         rintro e W2 ⟨x, y, z, rfl, hn, hb⟩
         refine hK.out _ _ ?_
         exact ⟨vs0, vs1, vs2, vs3, vs4, vs5, vs6, .agg #[.slice x7 y7 z7], .agg #[.slice xr9 yr9 zr9], .agg #[.slice x y z], vs10, vs11, vs12, vs13, vs14, vs15, (by simp only [pus]), hB.trans (hb.mono hB.size), p0, p1, p2, p3, p4, p5, p6, (fun _ => (show Nm _ _ _ from ⟨⟨x7, y7, z7, rfl⟩, n7⟩).below hb), (fun _ => rfl), (fun _ => ⟨⟨x, y, z, rfl⟩, hn⟩), p10, (fun h => (p11 h).below hb), p12, (fun h => (p13 h).below hb), (fun h => (p14 h).below hb), (fun h => (p15 h).below hb (Nat.le_refl _))⟩
       · simp only [pus]
         have c0 := V.c0 4 rfl
         have c1 := V.c1 4 rfl
         have c2 := V.c2 4 rfl
         refine any_op (o := _) rfl rfl ?_
         go_wp2_with fail
         refine hK.out _ _ ?_
         exact ⟨vs0, vs1, vs2, vs3, vs4, vs5, vs6, vs7, vs8, vs9, .agg #[.bool us, .slice q m d, .slice q' m' d'], vs11, vs12, vs13, vs14, vs15, (by simp only [pus]), hB, p0, p1, p2, p3, p4, p5, p6, p7, p8, p9, (fun _ => rfl), p11, p12, p13, p14, p15⟩
       · have k9 := p9 (hdep 9 (by kernel_rfl))
         obtain ⟨⟨x9, y9, z9, rfl⟩, n9⟩ := k9
         obtain rfl := p10 (hdep 10 (by kernel_rfl))
         simp only [pus]
         refine any_op (o := _) rfl rfl ?_
         have hC := Lib.hid (HDy.out W _ (V.rat 1 _ _ rfl))
         go_simp
         refine hC.out.mono ?_
         rintro e W2 ⟨x, y, z, rfl, hn, hb⟩
         refine hK.out _ _ ?_
         exact ⟨vs0, vs1, vs2, vs3, vs4, vs5, vs6, vs7, vs8, .agg #[.slice x9 y9 z9], .agg #[.bool us, .slice q m d, .slice q' m' d'], .agg #[.slice x y z], vs12, vs13, vs14, vs15, (by simp only [pus]), hB.trans (hb.mono hB.size), p0, p1, p2, p3, p4, p5, p6, (fun h => (p7 h).below hb), p8, (fun _ => (show Nm _ _ _ from ⟨⟨x9, y9, z9, rfl⟩, n9⟩).below hb), (fun _ => rfl), (fun _ => ⟨⟨x, y, z, rfl⟩, hn⟩), p12, (fun h => (p13 h).below hb), (fun h => (p14 h).below hb), (fun h => (p15 h).below hb (Nat.le_refl _))⟩
       · simp only [pus]
         have c0 := V.n0 2 rfl
         refine any_op (o := _) rfl rfl ?_
         go_wp2_with fail
         refine hK.out _ _ ?_
         exact ⟨vs0, vs1, vs2, vs3, vs4, vs5, vs6, vs7, vs8, vs9, vs10, vs11, .agg #[.slice xr4 yr4 zr4], vs13, vs14, vs15, (by simp only [pus]), hB, p0, p1, p2, p3, p4, p5, p6, p7, p8, p9, p10, p11, (fun _ => rfl), p13, p14, p15⟩
       · have k11 := p11 (hdep 11 (by kernel_rfl))
         obtain ⟨⟨x11, y11, z11, rfl⟩, n11⟩ := k11
         obtain rfl := p12 (hdep 12 (by kernel_rfl))
         simp only [pus]
         refine any_op (o := _) rfl rfl ?_
         have hC := Lib.hid (HB2.out W _ _ n11 (V.num 1 _ _ rfl).1)
         go_simp
         refine hC.out.mono ?_
         rintro e W2 ⟨x, y, z, rfl, hn, hb⟩
         refine hK.out _ _ ?_
         exact ⟨vs0, vs1, vs2, vs3, vs4, vs5, vs6, vs7, vs8, vs9, vs10, .agg #[.slice x11 y11 z11], .agg #[.slice xr4 yr4 zr4], .agg #[.slice x y z], vs14, vs15, (by simp only [pus]), hB.trans (hb.mono hB.size), p0, p1, p2, p3, p4, p5, p6, (fun h => (p7 h).below hb), p8, (fun h => (p9 h).below hb), p10, (fun _ => (show Nm _ _ _ from ⟨⟨x11, y11, z11, rfl⟩, n11⟩).below hb), (fun _ => rfl), (fun _ => ⟨⟨x, y, z, rfl⟩, hn⟩), (fun h => (p14 h).below hb), (fun h => (p15 h).below hb (Nat.le_refl _))⟩
       · have k9 := p9 (hdep 9 (by kernel_rfl))
         obtain ⟨⟨x9, y9, z9, rfl⟩, n9⟩ := k9
         have k13 := p13 (hdep 13 (by kernel_rfl))
         obtain ⟨⟨x13, y13, z13, rfl⟩, n13⟩ := k13
         simp only [pus]
         refine any_op (o := _) rfl rfl ?_
         have hC := Lib.hid (HDD.out W _ _ n9 n13)
         go_simp
         refine hC.out.mono ?_
         rintro e W2 ⟨x, y, z, rfl, hn, hb⟩
         refine hK.out _ _ ?_
         exact ⟨vs0, vs1, vs2, vs3, vs4, vs5, vs6, vs7, vs8, .agg #[.slice x9 y9 z9], vs10, vs11, vs12, .agg #[.slice x13 y13 z13], .agg #[.slice x y z], vs15, (by simp only [pus]), hB.trans (hb.mono hB.size), p0, p1, p2, p3, p4, p5, p6, (fun h => (p7 h).below hb), p8, (fun _ => (show Nm _ _ _ from ⟨⟨x9, y9, z9, rfl⟩, n9⟩).below hb), p10, (fun h => (p11 h).below hb), p12, (fun _ => (show Nm _ _ _ from ⟨⟨x13, y13, z13, rfl⟩, n13⟩).below hb), (fun _ => ⟨⟨x, y, z, rfl⟩, hn⟩), (fun h => (p15 h).below hb (Nat.le_refl _))⟩
       · obtain rfl := p4 (hdep 4 (by kernel_rfl))
         obtain rfl := p5 (hdep 5 (by kernel_rfl))
         have k14 := p14 (hdep 14 (by kernel_rfl))
         obtain ⟨⟨x14, y14, z14, rfl⟩, n14⟩ := k14
         simp only [pus]
         refine any_op (o := _) rfl rfl ?_
         have hC := Lib.hid (HX.out W _ _ (V.num 0 _ _ rfl).1 n14)
         go_simp
         refine hC.out.mono ?_
         rintro e W2 ⟨u, rfl, hn, hb⟩
         refine hK.out _ _ ?_
         exact ⟨vs0, vs1, vs2, vs3, .bool (!(zs == us)), .agg #[.slice xq8 yq8 zq8], vs6, vs7, vs8, vs9, vs10, vs11, vs12, vs13, .agg #[.slice x14 y14 z14], u, (by simp only [pus]), hB.trans (hb.mono hB.size), p0, p1, p2, p3, (fun _ => rfl), (fun _ => rfl), p6, (fun h => (p7 h).below hb), p8, (fun h => (p9 h).below hb), p10, (fun h => (p11 h).below hb), p12, (fun h => (p13 h).below hb), (fun _ => (show Nm _ _ _ from ⟨⟨x14, y14, z14, rfl⟩, n14⟩).below hb), (fun _ => hn)⟩
     · intro dj a W hd hI
       obtain ⟨vs0, vs1, vs2, vs3, vs4, vs5, vs6, vs7, vs8, vs9, vs10, vs11, vs12, vs13, vs14, vs15, rfl, hB, p0, p1, p2, p3, p4, p5, p6, p7, p8, p9, p10, p11, p12, p13, p14, p15⟩ := hI
       have V := V2.below hB
       obtain rfl := p0 (hd 0 (by omega))
       obtain rfl := p1 (hd 1 (by omega))
       obtain rfl := p2 (hd 2 (by omega))
       obtain rfl := p3 (hd 3 (by omega))
       obtain rfl := p4 (hd 4 (by omega))
       obtain rfl := p5 (hd 5 (by omega))
       obtain rfl := p6 (hd 6 (by omega))
       obtain ⟨⟨xs7, ys7, zs7, rfl⟩, ns7⟩ := p7 (hd 7 (by omega))
       obtain rfl := p8 (hd 8 (by omega))
       obtain ⟨⟨xs9, ys9, zs9, rfl⟩, ns9⟩ := p9 (hd 9 (by omega))
       obtain rfl := p10 (hd 10 (by omega))
       obtain ⟨⟨xs11, ys11, zs11, rfl⟩, ns11⟩ := p11 (hd 11 (by omega))
       obtain rfl := p12 (hd 12 (by omega))
       obtain ⟨⟨xs13, ys13, zs13, rfl⟩, ns13⟩ := p13 (hd 13 (by omega))
       obtain ⟨⟨xs14, ys14, zs14, rfl⟩, ns14⟩ := p14 (hd 14 (by omega))
       have ns15 := p15 (hd 15 (by omega))
       simp only [pus]
       show wpAny Tryz.prog .any _ _ 1 #[true, true, true, true, true, true, true, true, true, true, true, true, true, true, true, true, false] _ _
       obtain ⟨e1, e2, e3, e4, e5, e6, rfl, m1, m2⟩ := ns15
       obtain ⟨zx, hzx⟩ : ∃ zx, decide (X.num < 0) = zx := ⟨_, rfl⟩
       rw [hzx]
       have V9 := (V.cons m2 HXs.out.2).cons m1 HXs.out.1
       have r0 := V9.c0 3 rfl; have r1 := V9.c1 3 rfl; have r2 := V9.c2 3 rfl
       have f0 := V9.frozen 3 0 rfl; have f1 := V9.frozen 3 1 rfl; have f2 := V9.frozen 3 2 rfl
       have HF := Lib.hid (V9.fin3 (x := X) (y := zx) 3 0 1 rfl rfl rfl hzx)
       clear V V9 m1 m2 hzx V2 ns7 ns9 ns11 ns13 ns14
       refine wpAny_of_held (S := fun _ => True) _ _ _ _ ?_
       refine wpAnyH_ready (rs := [16]) (by kernel_rfl) (by simp) ?_
       refine AllReadyH.cons (o := _) rfl (fun K hK => ?_) AllReadyH.nil
       go_wp2_with fail
       refine hK.out _ _ trivial (fun _ => ?_)
       clear hK K
       try simp only [las]
       refine wpAnyH_done (by kernel_rfl) ?_ _
       go_wp2_with fail
       exact bodyPost_ret (res_rat rfl _ _ _ _ _ _ _ _ _ _ rfl HF.out.1) rfl HF.out.2
end Go.Proofs.YtckglpkafhmehaaGreatDoor
namespace Go.Proofs.YtckglpkafhmehaaGreatDoor
open Go.RowKit
set_option linter.unusedVariables false
theorem inv_parts (y : Rat) (h : y.num.natAbs ≠ 0) : (y⁻¹).num.natAbs = y.den ∧ (y⁻¹).den = y.num.natAbs ∧ decide ((y⁻¹).num < 0) = decide (y.num < 0) := by
 have h0 : y.num ≠ 0 := by omega
 have hd := y.den_pos
 rw [Rat.num_inv, Rat.den_inv, if_neg h0]
 by_cases hn : y.num < 0
 · rw [Int.sign_eq_neg_one_of_neg hn]
   refine ⟨by omega, rfl, ?_⟩
   rw [decide_eq_true hn]
   exact decide_eq_true (by omega)
 · rw [Int.sign_eq_one_of_pos (by omega)]
   refine ⟨by omega, rfl, ?_⟩
   rw [decide_eq_false hn]
   exact decide_eq_false (by omega)
theorem sz_inv {k : Nat} {y : Rat} (hy : Sz k y) (h : y.num.natAbs ≠ 0) : Sz k y⁻¹ := by
 obtain ⟨h1, h2, _⟩ := inv_parts y h
 exact ⟨by rw [h1]; exact hy.2, by rw [h2]; exact hy.1⟩
end Go.Proofs.YtckglpkafhmehaaGreatDoor
namespace Go.Proofs.YtckglpkafhmehaaGreatDoor
open Go.RowKit
set_option linter.unusedVariables false
theorem ten_19 {n k : Nat} (h : n ≤ 19 * k) : 10 ^ n ≤ 18446744073709551616 ^ k := by
 refine Nat.le_trans (Nat.pow_le_pow_right (by decide) h) ?_
 rw [Nat.pow_mul]
 exact Nat.pow_le_pow_left (by decide) k
theorem nn_lt19 {s : ByteArray} {k : Nat} (hs : s.size ≤ 19 * k) : nn s < 18446744073709551616 ^ k := by
 unfold nn
 split
 · rename_i h
   exact Nat.lt_of_lt_of_le (dv_lt s.size s.data.toList (by simp) h.dig) (ten_19 hs)
 · exact Nat.pow_pos (by decide)
theorem pq_sz19 {s : ByteArray} {x : Rat} {k : Nat} (h : pq s = some x) (hs : s.size ≤ 19 * k) (hk : 1 ≤ k) : Sz k x := by
 classical
 have hb := bd_size s
 unfold pq at h
 split at h
 · unfold pqw at h
   split at h
   · cases h
     refine ⟨?_, by rw [Rat.den_intCast]; exact Nat.one_lt_pow (by omega) (by decide)⟩
     rw [nd_num, sgn_abs]
     exact nn_lt19 (by omega)
   · cases h
 · split at h
   · rename_i hc
     cases h
     have ha := above_size (bd s)
     have hu := under_size (bd s)
     obtain ⟨p1, p2⟩ := mk_parts (n := sgn (ng s) (nn (above (bd s)))) (q := nn (under (bd s))) hc.2.1 (by rw [sgn_abs]; exact hc.2.2.2)
     refine ⟨?_, ?_⟩
     · rw [p1, sgn_abs]
       exact nn_lt19 (by omega)
     · rw [p2]
       exact nn_lt19 (by omega)
   · cases h
theorem cmpQ_swap (x y : Rat) : cmpQ x y = -cmpQ y x := by
 by_cases h : x < y
 · rw [cmpQ_lt h, cmpQ_gt h]
 · by_cases h2 : y < x
   · rw [cmpQ_lt h2, cmpQ_gt h2]; rfl
   · have e := Rat.le_antisymm (Rat.not_lt.1 h2) (Rat.not_lt.1 h)
     rw [e, cmpQ_eq]; rfl
theorem div_back (x y : Rat) (h : y.num.natAbs ≠ 0) : x * y⁻¹ * y = x := by
 have hy : y ≠ 0 := fun e => h (by rw [e]; rfl)
 rw [Rat.mul_assoc, Rat.inv_mul_cancel _ hy, Rat.mul_one]
theorem floor_under (x : Rat) : cmpQ ((x.floor : Int) : Rat) x = -1 ∨ cmpQ ((x.floor : Int) : Rat) x = 0 := by
 have h := Rat.floor_le x
 by_cases h2 : ((x.floor : Int) : Rat) < x
 · exact .inl (cmpQ_lt h2)
 · rw [Rat.le_antisymm h (Rat.not_lt.1 h2), cmpQ_eq]
   exact .inr rfl
theorem floor_over (x : Rat) : cmpQ x (((x.floor : Int) : Rat) + 1) = -1 := by
 have h := (Rat.floor_lt_iff (a := x) (x := x.floor + 1)).1 (by omega)
 rw [Rat.intCast_add] at h
 exact cmpQ_lt h
theorem ceil_over (x : Rat) : cmpQ ((x.ceil : Int) : Rat) x = 1 ∨ cmpQ ((x.ceil : Int) : Rat) x = 0 := by
 have h := floor_under (-x)
 have e : ((x.ceil : Int) : Rat) = -(((-x).floor : Int) : Rat) := by rw [Rat.ceil_eq_neg_floor_neg, Rat.intCast_neg]
 have hl := Rat.floor_le (-x)
 rw [e]
 generalize (((-x).floor : Int) : Rat) = f at *
 have hl2 : x ≤ -f := by grind
 by_cases h2 : x < -f
 · exact .inl (cmpQ_gt h2)
 · rw [Rat.le_antisymm (Rat.not_lt.1 h2) hl2, cmpQ_eq]
   exact .inr rfl
theorem sub_sign (x y : Rat) : cmpQ (x - y) 0 = cmpQ x y := by
 by_cases h : x < y
 · rw [cmpQ_lt h, cmpQ_lt (by grind)]
 · by_cases h2 : y < x
   · rw [cmpQ_gt h2, cmpQ_gt (by grind)]
   · have e := Rat.le_antisymm (Rat.not_lt.1 h2) (Rat.not_lt.1 h)
     rw [e, Rat.sub_self, cmpQ_eq, cmpQ_eq]
end Go.Proofs.YtckglpkafhmehaaGreatDoor
