/-
 Law 2: opposite, Same, Cmp.
-/
import Derived.Test.YtckglpkafhmehaaGreatDoorQMake
namespace Go.Proofs.YtckglpkafhmehaaGreatDoor
open Go.RowKit
set_option linter.unusedVariables false
/-- The sizes of a fraction's numbers. -/
def Sz (k : Nat) (x : Rat) : Prop := x.num.natAbs < 18446744073709551616 ^ k ∧ x.den < 18446744073709551616 ^ k
theorem Sz.mono {j k : Nat} {x : Rat} (h : Sz j x) (hk : j ≤ k) : Sz k x := ⟨Nat.lt_of_lt_of_le h.1 (w64_mono hk), Nat.lt_of_lt_of_le h.2 (w64_mono hk)⟩
theorem Sz.dn {k : Nat} {x : Rat} (h : Sz k x) : dn x < 18446744073709551616 ^ k := by
 unfold Go.Proofs.YtckglpkafhmehaaGreatDoor.dn
 split
 · exact Nat.pow_pos (by decide)
 · exact h.2
theorem times_dn (M : Nat) (x : Rat) : (if dn x = 0 then M else M * dn x) = M * x.den := by
 unfold dn
 by_cases h : x.den = 1
 · simp [h]
 · have := x.den_nz
   simp [h, this]
def sgn (b : Bool) (n : Nat) : Int := if b then -(n : Int) else (n : Int)
theorem num_sgn (x : Rat) : x.num = sgn (decide (x.num < 0)) x.num.natAbs := by
 unfold sgn
 by_cases h : x.num < 0
 · simp [h]; omega
 · simp [h]; omega
theorem rat_eq_iff (x y : Rat) : x = y ↔ (decide (x.num < 0) = decide (y.num < 0) ∧ x.num.natAbs = y.num.natAbs) ∧ dn x = dn y := by
 constructor
 · rintro rfl; exact ⟨⟨rfl, rfl⟩, rfl⟩
 · rintro ⟨⟨h1, h2⟩, h3⟩
   apply Rat.ext
   · rw [num_sgn x, num_sgn y, h1, h2]
   · have hx := x.den_nz
     have hy := y.den_nz
     unfold dn at h3
     split at h3 <;> split at h3 <;> omega
def cmpQ (x y : Rat) : Int := if x < y then -1 else if y < x then 1 else 0
theorem cmpI_zero (M N : Nat) : (cmpI M N == 0) = decide (M = N) := by
 rcases Nat.lt_trichotomy M N with h | h | h
 · rw [cmpI_lt h, decide_eq_false (by omega)]; rfl
 · subst h; rw [cmpI_eq]; simp
 · rw [cmpI_gt h, decide_eq_false (by omega)]; rfl
set_option maxRecDepth 100000 in
set_option maxHeartbeats 2000000 in
theorem opp_any (x : Rat) (va : Value) (w : World) (ha : IsR w va x) (hx : Sz 100 x) : Calls Tryz.prog 48 #[va] w (GaveR (-x) w) := by
 obtain ⟨p, n, c, p', n', c', rfl, h1, h2⟩ := ha
 have hn1 : (-x).num.natAbs = x.num.natAbs := by rw [Rat.neg_num]; omega
 have hd1 : dn (-x) = dn x := rfl
 obtain ⟨z, hz⟩ : ∃ z, decide (x.num < 0) = z := ⟨_, rfl⟩
 rw [hz]
 have V := (((Mq.refl w).cons h2 hx.dn).cons h1 hx.1).two 33 33 #[.bool z, .slice p n c, .slice p' n' c'] #[.bool false, .slice none 0 0, .slice none 0 0]
 have q0 := V.c0 1 rfl; have q1 := V.c1 1 rfl; have q2 := V.c2 1 rfl
 have g0 := V.frozen 1 0 rfl
 have Hn1 := Lib.hid hn1; have Hd1 := Lib.hid hd1
 have HI := Lib.hid (And.intro h1 h2)
 have hdst : ∀ (W : World) (z : Bool) (k' b' : Nat) (t' : TypeId) (cs' : Array Value), [(w.heap.size + 1, 33, #[Value.bool false, .slice none 0 0, .slice none 0 0]), (w.heap.size, 33, #[.bool z, .slice p n c, .slice p' n' c'])][k']? = some (b', t', cs') → k' ≠ 1 → b' ≠ w.heap.size := fun W z k' b' t' cs' e hne => by
  match k' with
  | 0 => simp at e; omega
  | 1 => exact absurd rfl hne
  | k + 2 => simp at e
 have Hdst := Lib.hid hdst
 clear h1 h2 hn1 hd1 hdst
 cases z with
 | true =>
  have hs : decide ((-x).num < 0) = false := by
   have := of_decide_eq_true hz
   rw [Rat.neg_num]; simp; omega
  have V4 := (((Mq.refl w).cons HI.out.2 hx.dn).cons HI.out.1 hx.1).two 33 33 #[.bool false, .slice p n c, .slice p' n' c'] #[.bool false, .slice none 0 0, .slice none 0 0]
  have V5 := (((Mq.refl w).cons HI.out.2 hx.dn).cons HI.out.1 hx.1).two 33 33 #[.bool false, .slice p n c, .slice p' n' c'] #[.bool false, .slice p n c, .slice p' n' c']
  have r0 := V4.c0 1 rfl; have r1 := V4.c1 1 rfl; have r2 := V4.c2 1 rfl
  have HF := Lib.hid (V5.fin30 (x := -x) 0 0 1 rfl (by rw [Hn1.out]; rfl) (by rw [Hd1.out]; rfl) hs)
  clear V V4 V5
  go_enter Tryz.func48, Tryz.ntmps48
  go_wp2_with fail
  exact bodyPost_ret (res_rat rfl _ _ _ _ _ _ _ _ _ _ rfl HF.out.1) rfl HF.out.2
 | false =>
  obtain ⟨y, hy⟩ : ∃ y, decide (x.num.natAbs = 0) = y := ⟨_, rfl⟩
  have hs : decide ((-x).num < 0) = !y := by
   have h0 := of_decide_eq_false hz
   rw [Rat.neg_num, ← hy]
   by_cases h : x.num.natAbs = 0
   · rw [decide_eq_true h, decide_eq_false (by omega)]; rfl
   · rw [decide_eq_false h, decide_eq_true (by omega)]; rfl
  have Hy := Lib.hid hy
  clear hy
  go_enter Tryz.func48, Tryz.ntmps48
  go_wp2_with fail
  refine (V.zero 0 rfl Hy.out).mono ?_
  rintro e w2 ⟨rfl, V2⟩
  have s0 := V2.c0 1 rfl; have s1 := V2.c1 1 rfl; have s2 := V2.c2 1 rfl
  have g1 := V2.frozen 1 0 rfl
  have V4 := V2.put 1 0 rfl (plain_rat _ _ _ _ _ _ _) (Hdst.out w false) (.bool (!y))
  have r0 := V4.c0 1 rfl; have r1 := V4.c1 1 rfl; have r2 := V4.c2 1 rfl
  have t0 := V4.c0 0 rfl; have t1 := V4.c1 0 rfl; have t2 := V4.c2 0 rfl
  have f0 := V4.frozen 0 0 rfl; have f1 := V4.frozen 0 1 rfl; have f2 := V4.frozen 0 2 rfl
  have HF := Lib.hid (V4.fin3 (x := -x) (y := !y) (q := p) (m := n) (d := c) (q' := p') (m' := n') (d' := c') 0 0 1 rfl (by rw [Hn1.out]; rfl) (by rw [Hd1.out]; rfl) hs)
  clear V V2 V4 q0 q1 q2 g0
  go_wp2_with fail
  exact bodyPost_ret (res_rat rfl _ _ _ _ _ _ _ _ _ _ rfl HF.out.1) rfl HF.out.2
set_option maxRecDepth 100000 in
set_option maxHeartbeats 4000000 in
theorem cmps_any (x y : Rat) (va vb : Value) (w : World) (ha : IsR w va x) (hb : IsR w vb y) (hx : Sz 50 x) (hy : Sz 50 y) :
 Calls Tryz.prog 30 #[va, vb] w fun e w' => e = .returned (.int .i64 (cmpI (x.num.natAbs * y.den) (y.num.natAbs * x.den))) ∧ Below w.heap.size w w' := by
 have hx1 := hx.mono (k := 100) (by omega)
 have hy1 := hy.mono (k := 100) (by omega)
 have pr : ∀ {M N : Nat}, M < 18446744073709551616 ^ 50 → N < 18446744073709551616 ^ 50 → M * N < 18446744073709551616 ^ 100 := fun h1 h2 => by
  have := Nat.mul_lt_mul'' h1 h2
  rwa [← Nat.pow_add] at this
 have HA := Lib.hid (show (if dn y = 0 then x.num.natAbs else x.num.natAbs * dn y) = x.num.natAbs * y.den ∧ x.num.natAbs * y.den < 18446744073709551616 ^ 100 from ⟨times_dn _ _, pr hx.1 hy.2⟩)
 have HBb := Lib.hid (show (if dn x = 0 then y.num.natAbs else y.num.natAbs * dn x) = y.num.natAbs * x.den ∧ y.num.natAbs * x.den < 18446744073709551616 ^ 100 from ⟨times_dn _ _, pr hy.1 hx.2⟩)
 obtain ⟨A, hA⟩ : ∃ A, x.num.natAbs * y.den = A := ⟨_, rfl⟩
 obtain ⟨B, hB⟩ : ∃ B, y.num.natAbs * x.den = B := ⟨_, rfl⟩
 rw [hA] at HA ⊢
 rw [hB] at HBb ⊢
 obtain ⟨p, n, c, p', n', c', rfl, h1, h2⟩ := ha
 obtain ⟨q, m, d, q', m', d', rfl, k1, k2⟩ := hb
 obtain ⟨z, hz⟩ : ∃ z, decide (x.num < 0) = z := ⟨_, rfl⟩
 obtain ⟨u, hu⟩ : ∃ u, decide (y.num < 0) = u := ⟨_, rfl⟩
 rw [hz, hu]
 have V0 := (((((Mq.refl w).cons k2 hy1.dn).cons k1 hy1.1).cons h2 hx1.dn).cons h1 hx1.1).two 33 33 #[.bool z, .slice p n c, .slice p' n' c'] #[.bool u, .slice q m d, .slice q' m' d']
 obtain ⟨C, hC⟩ : ∃ C, cmpI A B = C := ⟨_, rfl⟩
 have HC := Lib.hid hC
 rw [hC]
 obtain ⟨W0, hW0⟩ : ∃ W0, (w.alloc (.cells #[.bool z, .slice p n c, .slice p' n' c'] 33)).alloc (.cells #[.bool u, .slice q m d, .slice q' m' d'] 33) = W0 := ⟨_, rfl⟩
 rw [hW0] at V0
 have HW0 := Lib.hid hW0
 clear h1 h2 k1 k2 hz hu hC hW0 hA hB pr
 go_enter Tryz.func30, Tryz.ntmps30
 go_wp2_with fail
 rw [HW0.out]
 refine wp_region_inv 12 (fun a0 dj a W => ∃ vr0 vr1 vr2 vr3 vr4 vr5 vr6 vr7 vr8 vr9 vr10 vr11 : Value, a = puts a0 [(5, vr0), (6, vr1), (7, vr2), (8, vr3), (9, vr4), (10, vr5), (11, vr6), (12, vr7), (13, vr8), (14, vr9), (15, vr10), (4, vr11)] ∧ Below W0.heap.size W0 W ∧ (dj 0 = true → vr0 = .pointer (some ⟨w.heap.size, 1, none⟩)) ∧ (dj 1 = true → vr1 = .agg #[.slice p n c]) ∧ (dj 2 = true → vr2 = .pointer (some ⟨w.heap.size + 1, 2, none⟩)) ∧ (dj 3 = true → vr3 = .agg #[.slice q' m' d']) ∧ (dj 4 = true → Nm W vr4 (A)) ∧ (dj 5 = true → vr5 = .pointer (some ⟨w.heap.size + 1, 1, none⟩)) ∧ (dj 6 = true → vr6 = .agg #[.slice q m d]) ∧ (dj 7 = true → vr7 = .pointer (some ⟨w.heap.size, 2, none⟩)) ∧ (dj 8 = true → vr8 = .agg #[.slice p' n' c']) ∧ (dj 9 = true → Nm W vr9 (B)) ∧ (dj 10 = true → vr10 = .int .i64 C) ∧ (dj 11 = true → vr11 = .int .i64 C)) (by kernel_rfl) (by kernel_rfl) (by kernel_rfl) ?_ ?_ ?_ ?_
 · intro dj hcl i hi1 hi2 hd j hj
   exact absurd (Nat.lt_of_lt_of_le hi2 (of_decide_eq_true (by kernel_rfl))) (Nat.not_lt.2 hi1)
 · refine ⟨undef, undef, undef, undef, undef, undef, undef, undef, undef, undef, undef, .int .i64 0, (by simp only [pus]), (Below.refl _ _).drew, (fun h => by cases h), (fun h => by cases h), (fun h => by cases h), (fun h => by cases h), (fun h => by cases h), (fun h => by cases h), (fun h => by cases h), (fun h => by cases h), (fun h => by cases h), (fun h => by cases h), (fun h => by cases h), (fun h => by cases h)⟩
 · intro dj a W i hi hdi hcl hdep hI K hK
   obtain ⟨vr0, vr1, vr2, vr3, vr4, vr5, vr6, vr7, vr8, vr9, vr10, vr11, rfl, hB, p0, p1, p2, p3, p4, p5, p6, p7, p8, p9, p10, p11⟩ := hI
   have V := V0.below hB
   obtain rfl | rfl | rfl | rfl | rfl | rfl | rfl | rfl | rfl | rfl | rfl | rfl : i = 0 ∨ i = 1 ∨ i = 2 ∨ i = 3 ∨ i = 4 ∨ i = 5 ∨ i = 6 ∨ i = 7 ∨ i = 8 ∨ i = 9 ∨ i = 10 ∨ i = 11 := by omega
   · simp only [pus]
     refine any_op (o := _) rfl rfl ?_
     go_wp2_with fail
     refine hK.out _ _ ?_
     exact ⟨.pointer (some ⟨w.heap.size, 1, none⟩), vr1, vr2, vr3, vr4, vr5, vr6, vr7, vr8, vr9, vr10, vr11, (by simp only [pus]), hB, (fun _ => rfl), p1, p2, p3, p4, p5, p6, p7, p8, p9, p10, p11⟩
   · obtain rfl := p0 (hdep 0 (by kernel_rfl))
     simp only [pus]
     have c0 := V.c1 1 rfl
     refine any_op (o := _) rfl rfl ?_
     go_wp2_with fail
     refine hK.out _ _ ?_
     exact ⟨.pointer (some ⟨w.heap.size, 1, none⟩), .agg #[.slice p n c], vr2, vr3, vr4, vr5, vr6, vr7, vr8, vr9, vr10, vr11, (by simp only [pus]), hB, (fun _ => rfl), (fun _ => rfl), p2, p3, p4, p5, p6, p7, p8, p9, p10, p11⟩
   · simp only [pus]
     refine any_op (o := _) rfl rfl ?_
     go_wp2_with fail
     refine hK.out _ _ ?_
     exact ⟨vr0, vr1, .pointer (some ⟨w.heap.size + 1, 2, none⟩), vr3, vr4, vr5, vr6, vr7, vr8, vr9, vr10, vr11, (by simp only [pus]), hB, p0, p1, (fun _ => rfl), p3, p4, p5, p6, p7, p8, p9, p10, p11⟩
   · obtain rfl := p2 (hdep 2 (by kernel_rfl))
     simp only [pus]
     have c0 := V.c2 0 rfl
     refine any_op (o := _) rfl rfl ?_
     go_wp2_with fail
     refine hK.out _ _ ?_
     exact ⟨vr0, vr1, .pointer (some ⟨w.heap.size + 1, 2, none⟩), .agg #[.slice q' m' d'], vr4, vr5, vr6, vr7, vr8, vr9, vr10, vr11, (by simp only [pus]), hB, p0, p1, (fun _ => rfl), (fun _ => rfl), p4, p5, p6, p7, p8, p9, p10, p11⟩
   · obtain rfl := p1 (hdep 1 (by kernel_rfl))
     obtain rfl := p3 (hdep 3 (by kernel_rfl))
     simp only [pus]
     refine any_op (o := _) rfl rfl ?_
     have hC := Lib.hid (times_any _ _ _ _ W (V.num 0 _ _ rfl).1 (V.num 3 _ _ rfl).1 (V.num 0 _ _ rfl).2 (V.num 3 _ _ rfl).2 HA.out)
     go_simp
     refine hC.out.mono ?_
     rintro e W2 ⟨x, y, z, rfl, hn, hb⟩
     refine hK.out _ _ ?_
     exact ⟨vr0, .agg #[.slice p n c], vr2, .agg #[.slice q' m' d'], .agg #[.slice x y z], vr5, vr6, vr7, vr8, vr9, vr10, vr11, (by simp only [pus]), hB.trans (hb.mono hB.size), p0, (fun _ => rfl), p2, (fun _ => rfl), (fun _ => ⟨⟨x, y, z, rfl⟩, hn⟩), p5, p6, p7, p8, (fun h => (p9 h).below hb), p10, p11⟩
   · simp only [pus]
     refine any_op (o := _) rfl rfl ?_
     go_wp2_with fail
     refine hK.out _ _ ?_
     exact ⟨vr0, vr1, vr2, vr3, vr4, .pointer (some ⟨w.heap.size + 1, 1, none⟩), vr6, vr7, vr8, vr9, vr10, vr11, (by simp only [pus]), hB, p0, p1, p2, p3, p4, (fun _ => rfl), p6, p7, p8, p9, p10, p11⟩
   · obtain rfl := p5 (hdep 5 (by kernel_rfl))
     simp only [pus]
     have c0 := V.c1 0 rfl
     refine any_op (o := _) rfl rfl ?_
     go_wp2_with fail
     refine hK.out _ _ ?_
     exact ⟨vr0, vr1, vr2, vr3, vr4, .pointer (some ⟨w.heap.size + 1, 1, none⟩), .agg #[.slice q m d], vr7, vr8, vr9, vr10, vr11, (by simp only [pus]), hB, p0, p1, p2, p3, p4, (fun _ => rfl), (fun _ => rfl), p7, p8, p9, p10, p11⟩
   · simp only [pus]
     refine any_op (o := _) rfl rfl ?_
     go_wp2_with fail
     refine hK.out _ _ ?_
     exact ⟨vr0, vr1, vr2, vr3, vr4, vr5, vr6, .pointer (some ⟨w.heap.size, 2, none⟩), vr8, vr9, vr10, vr11, (by simp only [pus]), hB, p0, p1, p2, p3, p4, p5, p6, (fun _ => rfl), p8, p9, p10, p11⟩
   · obtain rfl := p7 (hdep 7 (by kernel_rfl))
     simp only [pus]
     have c0 := V.c2 1 rfl
     refine any_op (o := _) rfl rfl ?_
     go_wp2_with fail
     refine hK.out _ _ ?_
     exact ⟨vr0, vr1, vr2, vr3, vr4, vr5, vr6, .pointer (some ⟨w.heap.size, 2, none⟩), .agg #[.slice p' n' c'], vr9, vr10, vr11, (by simp only [pus]), hB, p0, p1, p2, p3, p4, p5, p6, (fun _ => rfl), (fun _ => rfl), p9, p10, p11⟩
   · have k4 := p4 (hdep 4 (by kernel_rfl))
     obtain ⟨⟨x4, y4, z4, rfl⟩, n4⟩ := k4
     obtain rfl := p6 (hdep 6 (by kernel_rfl))
     obtain rfl := p8 (hdep 8 (by kernel_rfl))
     simp only [pus]
     refine any_op (o := _) rfl rfl ?_
     have hC := Lib.hid (times_any _ _ _ _ W (V.num 2 _ _ rfl).1 (V.num 1 _ _ rfl).1 (V.num 2 _ _ rfl).2 (V.num 1 _ _ rfl).2 HBb.out)
     go_simp
     refine hC.out.mono ?_
     rintro e W2 ⟨x, y, z, rfl, hn, hb⟩
     refine hK.out _ _ ?_
     exact ⟨vr0, vr1, vr2, vr3, .agg #[.slice x4 y4 z4], vr5, .agg #[.slice q m d], vr7, .agg #[.slice p' n' c'], .agg #[.slice x y z], vr10, vr11, (by simp only [pus]), hB.trans (hb.mono hB.size), p0, p1, p2, p3, (fun _ => (show Nm _ _ _ from ⟨⟨x4, y4, z4, rfl⟩, n4⟩).below hb), p5, (fun _ => rfl), p7, (fun _ => rfl), (fun _ => ⟨⟨x, y, z, rfl⟩, hn⟩), p10, p11⟩
   · have k4 := p4 (hdep 4 (by kernel_rfl))
     obtain ⟨⟨x4, y4, z4, rfl⟩, n4⟩ := k4
     have k9 := p9 (hdep 9 (by kernel_rfl))
     obtain ⟨⟨x9, y9, z9, rfl⟩, n9⟩ := k9
     simp only [pus]
     refine any_op (o := _) rfl rfl ?_
     have hC := Lib.hid ((cmp_any A B _ _ W n4 n9).mono fun e w2 h => (⟨by rw [h.1, HC.out], h.2⟩ : e = .returned (.int .i64 C) ∧ Below W.heap.size W w2))
     go_simp
     refine hC.out.mono ?_
     rintro e W2 ⟨rfl, hb⟩
     refine hK.out _ _ ?_
     exact ⟨vr0, vr1, vr2, vr3, .agg #[.slice x4 y4 z4], vr5, vr6, vr7, vr8, .agg #[.slice x9 y9 z9], .int .i64 C, vr11, (by simp only [pus]), hB.trans (hb.mono hB.size), p0, p1, p2, p3, (fun _ => (show Nm _ _ _ from ⟨⟨x4, y4, z4, rfl⟩, n4⟩).below hb), p5, p6, p7, p8, (fun _ => (show Nm _ _ _ from ⟨⟨x9, y9, z9, rfl⟩, n9⟩).below hb), (fun _ => rfl), p11⟩
   · obtain rfl := p0 (hdep 0 (by kernel_rfl))
     obtain rfl := p1 (hdep 1 (by kernel_rfl))
     obtain rfl := p2 (hdep 2 (by kernel_rfl))
     obtain rfl := p3 (hdep 3 (by kernel_rfl))
     have k4 := p4 (hdep 4 (by kernel_rfl))
     obtain ⟨⟨x4, y4, z4, rfl⟩, n4⟩ := k4
     obtain rfl := p5 (hdep 5 (by kernel_rfl))
     obtain rfl := p6 (hdep 6 (by kernel_rfl))
     obtain rfl := p7 (hdep 7 (by kernel_rfl))
     obtain rfl := p8 (hdep 8 (by kernel_rfl))
     have k9 := p9 (hdep 9 (by kernel_rfl))
     obtain ⟨⟨x9, y9, z9, rfl⟩, n9⟩ := k9
     obtain rfl := p10 (hdep 10 (by kernel_rfl))
     simp only [pus]
     refine any_op (o := _) rfl rfl ?_
     go_wp2_with fail
     refine hK.out _ _ ?_
     exact ⟨.pointer (some ⟨w.heap.size, 1, none⟩), .agg #[.slice p n c], .pointer (some ⟨w.heap.size + 1, 2, none⟩), .agg #[.slice q' m' d'], .agg #[.slice x4 y4 z4], .pointer (some ⟨w.heap.size + 1, 1, none⟩), .agg #[.slice q m d], .pointer (some ⟨w.heap.size, 2, none⟩), .agg #[.slice p' n' c'], .agg #[.slice x9 y9 z9], .int .i64 C, .int .i64 C, (by simp only [pus]), hB, (fun _ => rfl), (fun _ => rfl), (fun _ => rfl), (fun _ => rfl), (fun _ => ⟨⟨x4, y4, z4, rfl⟩, n4⟩), (fun _ => rfl), (fun _ => rfl), (fun _ => rfl), (fun _ => rfl), (fun _ => ⟨⟨x9, y9, z9, rfl⟩, n9⟩), (fun _ => rfl), (fun _ => rfl)⟩
 · intro dj a W hd hI
   obtain ⟨vr0, vr1, vr2, vr3, vr4, vr5, vr6, vr7, vr8, vr9, vr10, vr11, rfl, hB, p0, p1, p2, p3, p4, p5, p6, p7, p8, p9, p10, p11⟩ := hI
   have V := V0.below hB
   obtain rfl := p0 (hd 0 (by omega))
   obtain rfl := p1 (hd 1 (by omega))
   obtain rfl := p2 (hd 2 (by omega))
   obtain rfl := p3 (hd 3 (by omega))
   obtain ⟨⟨xr4, yr4, zr4, rfl⟩, nr4⟩ := p4 (hd 4 (by omega))
   obtain rfl := p5 (hd 5 (by omega))
   obtain rfl := p6 (hd 6 (by omega))
   obtain rfl := p7 (hd 7 (by omega))
   obtain rfl := p8 (hd 8 (by omega))
   obtain ⟨⟨xr9, yr9, zr9, rfl⟩, nr9⟩ := p9 (hd 9 (by omega))
   obtain rfl := p10 (hd 10 (by omega))
   obtain rfl := p11 (hd 11 (by omega))
   simp only [pus]
   show wpAny Tryz.prog .any _ _ 0 #[true, true, true, true, true, true, true, true, true, true, true, true] _ _
   have HB := Lib.hid V.bel
   clear V V0 nr4 nr9
   refine ⟨by kernel_rfl, ?_⟩
   go_wp2_with fail
   go_ret
   exact ⟨rfl, HB.out⟩
end Go.Proofs.YtckglpkafhmehaaGreatDoor
