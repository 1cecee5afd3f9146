/-
 Law 2: Round.
-/
import Derived.Test.YtckglpkafhmehaaGreatDoorQC
namespace Go.Proofs.YtckglpkafhmehaaGreatDoor
open Go.RowKit
set_option linter.unusedVariables false
/-- The nearest whole number of what has no sign. -/
def rndN (x : Rat) : Nat := (x.num.natAbs * 2 ^ 1 + x.den) / (x.den * 2 ^ 1)
theorem dvm_tr (M N : Nat) (va vb : Value) (W : World) (ha : IsN W va M) (hb : IsN W vb N) (hM : M < 18446744073709551616 ^ 8000) (hN : 0 < N) : Calls Tryz.prog 49 #[va, vb] W fun e w' => ∃ x y z x' y' z', e = .returned (.tuple #[.agg #[.slice x y z], .agg #[.slice x' y' z'], .bool true]) ∧ IsN w' (.agg #[.slice x y z]) (M / N) ∧ IsN w' (.agg #[.slice x' y' z']) (M % N) ∧ Below W.heap.size W w' :=
 (dvm_any M N va vb W ha hb hM).mono fun e w2 h => by
  obtain ⟨h1 | h1, h2⟩ := h
  · exact absurd h1.1 (by omega)
  · obtain ⟨_, x, y, z, x9, y9, z9, h3, h4, h5⟩ := h1
    exact ⟨x, y, z, x9, y9, z9, h3, h4, h5, h2⟩
theorem nd_num (v : Int) : ((v : Rat)).num.natAbs = v.natAbs := by rw [Rat.num_intCast]
theorem nd_den (v : Int) : dn (v : Rat) = 0 := dn_one (Rat.den_intCast v)
set_option maxRecDepth 100000 in
set_option maxHeartbeats 8000000 in
theorem round_pos (x : Rat) (va : Value) (w : World) (ha : IsR w va x) (hx : Sz 90 x) (hs : decide (x.num < 0) = false) : Calls Tryz.prog 25 #[va] w (GaveR ((rndN x : Int) : Rat) w) := by
 have hx1 := hx.mono (k := 100) (by omega)
 have HDen : Hid (∀ W v, IsR W v x → Calls Tryz.prog 44 #[v] W (GaveV x.den W)) := Lib.hid (fun W v h => den_any x v W h hx1.2)
 have hR := ha
 obtain ⟨p, n, c, p', n', c', rfl, h1, h2⟩ := ha
 rw [hs] at hR ⊢
 have V0 := (((Mq.refl w).rcons hR).cons h1 hx1.1).two 33 33 #[.bool false, .slice p n c, .slice p' n' c'] #[.bool false, .slice none 0 0, .slice none 0 0]
 have HRn : Hid (rndN x = (x.num.natAbs * 2 ^ 1 + x.den) / (x.den * 2 ^ 1)) := Lib.hid rfl
 have hB0 := x.den_pos
 obtain ⟨hA9, hB9⟩ := hx
 obtain ⟨A, hA⟩ : ∃ A, x.num.natAbs = A := ⟨_, rfl⟩
 obtain ⟨B, hB⟩ : ∃ B, x.den = B := ⟨_, rfl⟩
 obtain ⟨RN', hRN⟩ : ∃ r : Nat, rndN x = r := ⟨_, rfl⟩
 rw [hRN] at HRn ⊢
 rw [hA] at V0 HRn hA9
 rw [hB] at HDen HRn hB9 hB0
 have two : ∀ {N k : Nat}, N < 18446744073709551616 ^ k → N * 2 ^ 1 < 18446744073709551616 ^ (k + 1) := fun h => by
  rw [Nat.pow_succ]
  have := Nat.mul_lt_mul_of_lt_of_le h (show 2 ^ 1 ≤ 18446744073709551616 by decide) (by decide)
  exact this
 have addk : ∀ {M N k : Nat}, M < 18446744073709551616 ^ k → N < 18446744073709551616 ^ k → M + N < 18446744073709551616 ^ (k + 1) := fun {M N k} h1 h2 => by
  rw [Nat.pow_succ]
  have := Nat.mul_le_mul_left (18446744073709551616 ^ k) (show 2 ≤ 18446744073709551616 by decide)
  omega
 have up : ∀ {N j : Nat} (k : Nat), N < 18446744073709551616 ^ j → j ≤ k → N < 18446744073709551616 ^ k := fun k h hk => Nat.lt_of_lt_of_le h (w64_mono hk)
 have HA9 := Lib.hid (up 9000 hA9 (by omega))
 have HB9 := Lib.hid (up 9000 hB9 (by omega))
 have HA29 := Lib.hid (up 9000 (two hA9) (by omega))
 have hsum : A * 2 ^ 1 + B < 18446744073709551616 ^ 92 := addk (two hA9) (up 91 hB9 (by omega))
 have HS8 := Lib.hid (up 8000 hsum (by omega))
 have HSm := Lib.hid (up 100 hsum (by omega))
 have HB0 := Lib.hid hB0
 have HQ : Hid ((A * 2 ^ 1 + B) / (B * 2 ^ 1) < 18446744073709551616 ^ 100) := Lib.hid (Nat.lt_of_le_of_lt (Nat.div_le_self _ _) HSm.out)
 obtain ⟨W0, hW0⟩ : ∃ W0, (w.alloc (.cells #[.bool false, .slice p n c, .slice p' n' c'] 33)).alloc (.cells #[.bool false, .slice none 0 0, .slice none 0 0] 33) = W0 := ⟨_, rfl⟩
 rw [hW0] at V0
 have HW0 := Lib.hid hW0
 have g0 : ((w.alloc (.cells #[.bool false, .slice p n c, .slice p' n' c'] 33)).alloc (.cells #[.bool false, .slice none 0 0, .slice none 0 0] 33)).cell? ⟨w.heap.size, 0, none⟩ = some (.bool false) := by rw [hW0]; exact V0.c0 1 rfl
 clear h1 h2 hR hs hW0 hA hB hRN hA9 hB9 hB0 two addk up hsum hx1
 go_enter Tryz.func25, Tryz.ntmps25
 go_wp2_with fail
 rw [HW0.out]
 refine wp_region_inv 8 (fun a0 dj a W => ∃ vr0 vr1 vr2 vr3 vr4 vr5 vr6 : Value, a = puts a0 [(13, vr0), (14, vr1), (15, vr2), (16, vr3), (17, vr4), (18, vr5), (3, vr6)] ∧ Below W0.heap.size W0 W ∧ (dj 0 = true → vr0 = .pointer (some ⟨w.heap.size, 1, none⟩)) ∧ (dj 1 = true → vr1 = .agg #[.slice p n c]) ∧ (dj 2 = true → Nm W vr2 (A * 2 ^ 1)) ∧ (dj 3 = true → vr3 = .agg #[.bool false, .slice p n c, .slice p' n' c']) ∧ (dj 4 = true → Nm W vr4 (B)) ∧ (dj 5 = true → Nm W vr5 (A * 2 ^ 1 + B)) ∧ (dj 6 = true → dj 7 = false → Bn W0 W vr6) ∧ (dj 7 = true → St W0 W vr6 vr5)) (by kernel_rfl) (by kernel_rfl) (by kernel_rfl) ?_ ?_ ?_ ?_
 · intro dj hcl i hi1 hi2 hd j hj
   exact absurd (Nat.lt_of_lt_of_le hi2 (of_decide_eq_true (by kernel_rfl))) (Nat.not_lt.2 hi1)
 · refine ⟨undef, undef, undef, undef, undef, undef, undef, (by simp only [pus]), (Below.refl _ _).drew, (fun h => by cases h), (fun h => by cases h), (fun h => by cases h), (fun h => by cases h), (fun h => by cases h), (fun h => by cases h), (fun h => by cases h), (fun h => by cases h)⟩
 · intro dj a W i hi hdi hcl hdep hI K hK
   obtain ⟨vr0, vr1, vr2, vr3, vr4, vr5, vr6, rfl, hB, p0, p1, p2, p3, p4, p5, p6, p7⟩ := hI
   have V := V0.below hB
   obtain rfl | rfl | rfl | rfl | rfl | rfl | rfl | rfl : i = 0 ∨ i = 1 ∨ i = 2 ∨ i = 3 ∨ i = 4 ∨ i = 5 ∨ i = 6 ∨ i = 7 := by omega
   · simp only [pus]
     refine any_op (o := _) rfl rfl ?_
     go_wp2_with fail
     refine hK.out _ _ ?_
     exact ⟨.pointer (some ⟨w.heap.size, 1, none⟩), vr1, vr2, vr3, vr4, vr5, vr6, (by simp only [pus]), hB, (fun _ => rfl), p1, p2, p3, p4, p5, p6, p7⟩
   · obtain rfl := p0 (hdep 0 (by kernel_rfl))
     simp only [pus]
     have c0 := V.c1 1 rfl
     refine any_op (o := _) rfl rfl ?_
     go_wp2_with fail
     refine hK.out _ _ ?_
     exact ⟨.pointer (some ⟨w.heap.size, 1, none⟩), .agg #[.slice p n c], vr2, vr3, vr4, vr5, vr6, (by simp only [pus]), hB, (fun _ => rfl), (fun _ => rfl), p2, p3, p4, p5, p6, p7⟩
   · obtain rfl := p1 (hdep 1 (by kernel_rfl))
     simp only [pus]
     refine any_op (o := _) rfl rfl ?_
     have hC := Lib.hid ((shu_any A 1 _ 1 W (V.num 0 _ _ rfl).1 HA9.out (by omega) rfl).mono fun e w2 h => gaveV (gaveF_n h))
     go_simp
     refine hC.out.mono ?_
     rintro e W2 ⟨x, y, z, rfl, hn, hb⟩
     refine hK.out _ _ ?_
     exact ⟨vr0, .agg #[.slice p n c], .agg #[.slice x y z], vr3, vr4, vr5, vr6, (by simp only [pus]), hB.trans (hb.mono hB.size), p0, (fun _ => rfl), (fun _ => ⟨⟨x, y, z, rfl⟩, hn⟩), p3, (fun h => (p4 h).below hb), (fun h => (p5 h).below hb), (fun h h2 => (p6 h h2).below hb), (fun h => (p7 h).below hb)⟩
   · simp only [pus]
     have c0 := V.c0 1 rfl
     have c1 := V.c1 1 rfl
     have c2 := V.c2 1 rfl
     refine any_op (o := _) rfl rfl ?_
     go_wp2_with fail
     refine hK.out _ _ ?_
     exact ⟨vr0, vr1, vr2, .agg #[.bool false, .slice p n c, .slice p' n' c'], vr4, vr5, vr6, (by simp only [pus]), hB, p0, p1, p2, (fun _ => rfl), p4, p5, p6, p7⟩
   · have k2 := p2 (hdep 2 (by kernel_rfl))
     obtain ⟨⟨x2, y2, z2, rfl⟩, n2⟩ := k2
     obtain rfl := p3 (hdep 3 (by kernel_rfl))
     simp only [pus]
     refine any_op (o := _) rfl rfl ?_
     have hC := Lib.hid (HDen.out W _ (V.rat 0 _ _ rfl))
     go_simp
     refine hC.out.mono ?_
     rintro e W2 ⟨x, y, z, rfl, hn, hb⟩
     refine hK.out _ _ ?_
     exact ⟨vr0, vr1, .agg #[.slice x2 y2 z2], .agg #[.bool false, .slice p n c, .slice p' n' c'], .agg #[.slice x y z], vr5, vr6, (by simp only [pus]), hB.trans (hb.mono hB.size), p0, p1, (fun _ => (show Nm _ _ _ from ⟨⟨x2, y2, z2, rfl⟩, n2⟩).below hb), (fun _ => rfl), (fun _ => ⟨⟨x, y, z, rfl⟩, hn⟩), (fun h => (p5 h).below hb), (fun h h2 => (p6 h h2).below hb), (fun h => (p7 h).below hb)⟩
   · have k2 := p2 (hdep 2 (by kernel_rfl))
     obtain ⟨⟨x2, y2, z2, rfl⟩, n2⟩ := k2
     have k4 := p4 (hdep 4 (by kernel_rfl))
     obtain ⟨⟨x4, y4, z4, rfl⟩, n4⟩ := k4
     simp only [pus]
     refine any_op (o := _) rfl rfl ?_
     have hC := Lib.hid (add_any (A * 2 ^ 1) B _ _ W n2 n4 HA29.out HB9.out)
     go_simp
     refine hC.out.mono ?_
     rintro e W2 ⟨x, y, z, rfl, hn, hb⟩
     refine hK.out _ _ ?_
     exact ⟨vr0, vr1, .agg #[.slice x2 y2 z2], vr3, .agg #[.slice x4 y4 z4], .agg #[.slice x y z], vr6, (by simp only [pus]), hB.trans (hb.mono hB.size), p0, p1, (fun _ => (show Nm _ _ _ from ⟨⟨x2, y2, z2, rfl⟩, n2⟩).below hb), p3, (fun _ => (show Nm _ _ _ from ⟨⟨x4, y4, z4, rfl⟩, n4⟩).below hb), (fun _ => ⟨⟨x, y, z, rfl⟩, hn⟩), (fun h h2 => (p6 h h2).below hb), (fun h => absurd (hcl 7 5 (by kernel_rfl) h) (by rw [hdi]; simp))⟩
   · simp only [pus]
     refine any_op (o := _) rfl rfl ?_
     have hb := below_lit W (.cells #[.slice none 0 0] 31)
     have hnb : Bn W0 (W.alloc (.cells #[.slice none 0 0] 31)) (.pointer (some ⟨W.heap.size, 0, none⟩)) := ⟨_, rfl, Blk.new W _ _, hB.size⟩
     go_wp2_with fail
     refine hK.out _ _ ?_
     exact ⟨vr0, vr1, vr2, vr3, vr4, vr5, .pointer (some ⟨W.heap.size, 0, none⟩), (by simp only [pus]), hB.trans (hb.mono hB.size), p0, p1, (fun h => (p2 h).below hb), p3, (fun h => (p4 h).below hb), (fun h => (p5 h).below hb), (fun _ _ => hnb), (fun h => absurd (hcl 7 6 (by kernel_rfl) h) (by rw [hdi]; simp))⟩
   · obtain ⟨b, rfl, hk, hl⟩ := p6 (hdep 6 (by kernel_rfl)) hdi
     obtain ⟨⟨x, y, z, rfl⟩, hn⟩ := p5 (hdep 5 (by kernel_rfl))
     simp only [pus]
     have c0 := hk.cell 0; have c1 := hk.frozen 0
     simp only [List.getElem?_toArray, List.getElem?_cons_zero] at c0
     refine any_op (o := _) rfl rfl ?_
     go_wp2_with fail
     refine hK.out _ _ ?_
     exact ⟨vr0, vr1, vr2, vr3, vr4, .agg #[.slice x y z], .pointer (some ⟨b, 0, none⟩), (by simp only [pus]), (hB.setCell (p := ⟨b, 0, none⟩) hl _), p0, p1, (fun h => (p2 h).put hk), p3, (fun h => (p4 h).put hk), (fun h => (p5 h).put hk), (fun _ h => by rw [upd_self] at h; cases h), (fun _ => ⟨b, x, y, z, rfl, rfl, hk.set_ 0 _, hl⟩)⟩
 · intro dj a W1 hd hI
   obtain ⟨vr0, vr1, vr2, vr3, vr4, vr5, vr6, rfl, hB, p0, p1, p2, p3, p4, p5, p6, p7⟩ := hI
   have V := V0.below hB
   obtain rfl := p0 (hd 0 (by omega))
   obtain rfl := p1 (hd 1 (by omega))
   obtain ⟨⟨xr2, yr2, zr2, rfl⟩, nr2⟩ := p2 (hd 2 (by omega))
   obtain rfl := p3 (hd 3 (by omega))
   obtain ⟨⟨xr4, yr4, zr4, rfl⟩, nr4⟩ := p4 (hd 4 (by omega))
   obtain ⟨⟨xr5, yr5, zr5, rfl⟩, nr5⟩ := p5 (hd 5 (by omega))
   obtain ⟨br7, x9, y9, z9, rfl, e9, kr7, lr7⟩ := p7 (hd 7 (by omega))
   cases e9
   simp only [pus]
   show wpAny Tryz.prog .any _ _ 0 #[true, true, true, true, true, true, true, true] _ _
   have V2 := (V.cons nr5 HSm.out).addbox kr7 (Nat.le_trans V0.bel.size lr7)
   clear V kr7 nr2 nr4
   refine ⟨by kernel_rfl, ?_⟩
   go_wp2_with fail
   refine wp_region_inv 14 (fun a0 dj a W => ∃ vq0 vq1 vq2 vq3 vq4 vq5 vq6 vq7 vq8 vq9 vq10 vq13 : Value, a = puts a0 [(20, vq0), (21, vq1), (22, vq2), (23, vq3), (24, vq4), (19, vq5), (25, vq6), (26, vq7), (27, vq8), (4, vq9), (5, vq10), (6, vq13)] ∧ Below W1.heap.size W1 W ∧ (dj 0 = true → vq0 = .agg #[.slice xr5 yr5 zr5]) ∧ (dj 1 = true → vq1 = .agg #[.bool false, .slice p n c, .slice p' n' c']) ∧ (dj 2 = true → Nm W vq2 (B)) ∧ (dj 3 = true → Nm W vq3 (B * 2 ^ 1)) ∧ (dj 4 = true → Tr W vq4 ((A * 2 ^ 1 + B) / (B * 2 ^ 1)) ((A * 2 ^ 1 + B) % (B * 2 ^ 1))) ∧ (dj 5 = true → Tr W vq5 ((A * 2 ^ 1 + B) / (B * 2 ^ 1)) ((A * 2 ^ 1 + B) % (B * 2 ^ 1))) ∧ (dj 6 = true → Nm W vq6 ((A * 2 ^ 1 + B) / (B * 2 ^ 1))) ∧ (dj 7 = true → Nm W vq7 ((A * 2 ^ 1 + B) % (B * 2 ^ 1))) ∧ (dj 8 = true → vq8 = .bool true) ∧ (dj 9 = true → dj 11 = false → Bn W1 W vq9) ∧ (dj 10 = true → dj 12 = false → Bn W1 W vq10) ∧ (dj 11 = true → St W1 W vq9 vq6) ∧ (dj 12 = true → St W1 W vq10 vq7) ∧ (dj 13 = true → vq13 = .bool true) ∧ (dj 9 = true → dj 10 = true → vq9 ≠ vq10)) (by kernel_rfl) (by kernel_rfl) (by kernel_rfl) ?_ ?_ ?_ ?_
   · intro dj hcl i hi1 hi2 hd j hj
     exact absurd (Nat.lt_of_lt_of_le hi2 (of_decide_eq_true (by kernel_rfl))) (Nat.not_lt.2 hi1)
   · refine ⟨undef, undef, undef, undef, undef, undef, undef, undef, undef, undef, undef, undef, (by simp only [pus]), (Below.refl _ _).drew, (fun h => by cases h), (fun h => by cases h), (fun h => by cases h), (fun h => by cases h), (fun h => by cases h), (fun h => by cases h), (fun h => by cases h), (fun h => by cases h), (fun h => by cases h), (fun h => by cases h), (fun h => by cases h), (fun h => by cases h), (fun h => by cases h), (fun h => by cases h), (fun h => by cases h)⟩
   · intro dj a W i hi hdi hcl hdep hI K hK
     obtain ⟨vq0, vq1, vq2, vq3, vq4, vq5, vq6, vq7, vq8, vq9, vq10, vq13, rfl, hB, p0, p1, p2, p3, p4, p5, p6, p7, p8, p9, p10, p11, p12, p13, q9_10⟩ := hI
     have V := V2.below hB
     obtain rfl | rfl | rfl | rfl | rfl | rfl | rfl | rfl | rfl | rfl | rfl | rfl | rfl | rfl : i = 0 ∨ i = 1 ∨ i = 2 ∨ i = 3 ∨ i = 4 ∨ i = 5 ∨ i = 6 ∨ i = 7 ∨ i = 8 ∨ i = 9 ∨ i = 10 ∨ i = 11 ∨ i = 12 ∨ i = 13 := by omega
     · simp only [pus]
       have c0 := V.n0 0 rfl
       refine any_op (o := _) rfl rfl ?_
       go_wp2_with fail
       refine hK.out _ _ ?_
       exact ⟨.agg #[.slice xr5 yr5 zr5], vq1, vq2, vq3, vq4, vq5, vq6, vq7, vq8, vq9, vq10, vq13, (by simp only [pus]), hB, (fun _ => rfl), p1, p2, p3, p4, p5, p6, p7, p8, p9, p10, p11, p12, p13, q9_10⟩
     · simp only [pus]
       have c0 := V.c0 2 rfl
       have c1 := V.c1 2 rfl
       have c2 := V.c2 2 rfl
       refine any_op (o := _) rfl rfl ?_
       go_wp2_with fail
       refine hK.out _ _ ?_
       exact ⟨vq0, .agg #[.bool false, .slice p n c, .slice p' n' c'], vq2, vq3, vq4, vq5, vq6, vq7, vq8, vq9, vq10, vq13, (by simp only [pus]), hB, p0, (fun _ => rfl), p2, p3, p4, p5, p6, p7, p8, p9, p10, p11, p12, p13, q9_10⟩
     · obtain rfl := p1 (hdep 1 (by kernel_rfl))
       simp only [pus]
       refine any_op (o := _) rfl rfl ?_
       have hC := Lib.hid (HDen.out W _ (V.rat 0 _ _ rfl))
       go_simp
       refine hC.out.mono ?_
       rintro e W2 ⟨x, y, z, rfl, hn, hb⟩
       refine hK.out _ _ ?_
       exact ⟨vq0, .agg #[.bool false, .slice p n c, .slice p' n' c'], .agg #[.slice x y z], vq3, vq4, vq5, vq6, vq7, vq8, vq9, vq10, vq13, (by simp only [pus]), hB.trans (hb.mono hB.size), p0, (fun _ => rfl), (fun _ => ⟨⟨x, y, z, rfl⟩, hn⟩), (fun h => (p3 h).below hb), (fun h => (p4 h).below hb), (fun h => (p5 h).below hb), (fun h => (p6 h).below hb), (fun h => (p7 h).below hb), p8, (fun h h2 => (p9 h h2).below hb), (fun h h2 => (p10 h h2).below hb), (fun h => (p11 h).below hb), (fun h => (p12 h).below hb), p13, q9_10⟩
     · have k2 := p2 (hdep 2 (by kernel_rfl))
       obtain ⟨⟨x2, y2, z2, rfl⟩, n2⟩ := k2
       simp only [pus]
       refine any_op (o := _) rfl rfl ?_
       have hC := Lib.hid ((shu_any B 1 _ 1 W n2 HB9.out (by omega) rfl).mono fun e w2 h => gaveV (gaveF_n h))
       go_simp
       refine hC.out.mono ?_
       rintro e W2 ⟨x, y, z, rfl, hn, hb⟩
       refine hK.out _ _ ?_
       exact ⟨vq0, vq1, .agg #[.slice x2 y2 z2], .agg #[.slice x y z], vq4, vq5, vq6, vq7, vq8, vq9, vq10, vq13, (by simp only [pus]), hB.trans (hb.mono hB.size), p0, p1, (fun _ => (show Nm _ _ _ from ⟨⟨x2, y2, z2, rfl⟩, n2⟩).below hb), (fun _ => ⟨⟨x, y, z, rfl⟩, hn⟩), (fun h => (p4 h).below hb), (fun h => (p5 h).below hb), (fun h => (p6 h).below hb), (fun h => (p7 h).below hb), p8, (fun h h2 => (p9 h h2).below hb), (fun h h2 => (p10 h h2).below hb), (fun h => (p11 h).below hb), (fun h => (p12 h).below hb), p13, q9_10⟩
     · obtain rfl := p0 (hdep 0 (by kernel_rfl))
       have k3 := p3 (hdep 3 (by kernel_rfl))
       obtain ⟨⟨x3, y3, z3, rfl⟩, n3⟩ := k3
       simp only [pus]
       refine any_op (o := _) rfl rfl ?_
       have hC := Lib.hid (dvm_tr (A * 2 ^ 1 + B) (B * 2 ^ 1) _ _ W (V.num 0 _ _ rfl).1 n3 HS8.out (by have := HB0.out; omega))
       go_simp
       refine hC.out.mono ?_
       rintro e W2 ⟨x, y, z, x9, y9, z9, rfl, hn, hn9, hb⟩
       refine hK.out _ _ ?_
       exact ⟨.agg #[.slice xr5 yr5 zr5], vq1, vq2, .agg #[.slice x3 y3 z3], .tuple #[.agg #[.slice x y z], .agg #[.slice x9 y9 z9], .bool true], vq5, vq6, vq7, vq8, vq9, vq10, vq13, (by simp only [pus]), hB.trans (hb.mono hB.size), (fun _ => rfl), p1, (fun h => (p2 h).below hb), (fun _ => (show Nm _ _ _ from ⟨⟨x3, y3, z3, rfl⟩, n3⟩).below hb), (fun _ => ⟨x, y, z, x9, y9, z9, rfl, hn, hn9⟩), (fun h => (p5 h).below hb), (fun h => (p6 h).below hb), (fun h => (p7 h).below hb), p8, (fun h h2 => (p9 h h2).below hb), (fun h h2 => (p10 h h2).below hb), (fun h => (p11 h).below hb), (fun h => (p12 h).below hb), p13, q9_10⟩
     · have k4 := p4 (hdep 4 (by kernel_rfl))
       obtain ⟨x4, y4, z4, r4, s4, t4, rfl, n4, o4⟩ := k4
       simp only [pus]
       refine any_op (o := _) rfl rfl ?_
       go_wp2_with fail
       refine hK.out _ _ ?_
       exact ⟨vq0, vq1, vq2, vq3, .tuple #[.agg #[.slice x4 y4 z4], .agg #[.slice r4 s4 t4], .bool true], .tuple #[.agg #[.slice x4 y4 z4], .agg #[.slice r4 s4 t4], .bool true], vq6, vq7, vq8, vq9, vq10, vq13, (by simp only [pus]), hB, p0, p1, p2, p3, (fun _ => ⟨x4, y4, z4, r4, s4, t4, rfl, n4, o4⟩), (fun _ => ⟨x4, y4, z4, r4, s4, t4, rfl, n4, o4⟩), p6, p7, p8, p9, p10, p11, p12, p13, q9_10⟩
     · have k5 := p5 (hdep 5 (by kernel_rfl))
       obtain ⟨x5, y5, z5, r5, s5, t5, rfl, n5, o5⟩ := k5
       simp only [pus]
       refine any_op (o := _) rfl rfl ?_
       go_wp2_with fail
       refine hK.out _ _ ?_
       exact ⟨vq0, vq1, vq2, vq3, vq4, .tuple #[.agg #[.slice x5 y5 z5], .agg #[.slice r5 s5 t5], .bool true], .agg #[.slice x5 y5 z5], vq7, vq8, vq9, vq10, vq13, (by simp only [pus]), hB, p0, p1, p2, p3, p4, (fun _ => ⟨x5, y5, z5, r5, s5, t5, rfl, n5, o5⟩), (fun _ => ⟨⟨x5, y5, z5, rfl⟩, n5⟩), p7, p8, p9, p10, (fun h => absurd (hcl 11 6 (by kernel_rfl) h) (by rw [hdi]; simp)), p12, p13, q9_10⟩
     · have k5 := p5 (hdep 5 (by kernel_rfl))
       obtain ⟨x5, y5, z5, r5, s5, t5, rfl, n5, o5⟩ := k5
       simp only [pus]
       refine any_op (o := _) rfl rfl ?_
       go_wp2_with fail
       refine hK.out _ _ ?_
       exact ⟨vq0, vq1, vq2, vq3, vq4, .tuple #[.agg #[.slice x5 y5 z5], .agg #[.slice r5 s5 t5], .bool true], vq6, .agg #[.slice r5 s5 t5], vq8, vq9, vq10, vq13, (by simp only [pus]), hB, p0, p1, p2, p3, p4, (fun _ => ⟨x5, y5, z5, r5, s5, t5, rfl, n5, o5⟩), p6, (fun _ => ⟨⟨r5, s5, t5, rfl⟩, o5⟩), p8, p9, p10, p11, (fun h => absurd (hcl 12 7 (by kernel_rfl) h) (by rw [hdi]; simp)), p13, q9_10⟩
     · have k5 := p5 (hdep 5 (by kernel_rfl))
       obtain ⟨x5, y5, z5, r5, s5, t5, rfl, n5, o5⟩ := k5
       simp only [pus]
       refine any_op (o := _) rfl rfl ?_
       go_wp2_with fail
       refine hK.out _ _ ?_
       exact ⟨vq0, vq1, vq2, vq3, vq4, .tuple #[.agg #[.slice x5 y5 z5], .agg #[.slice r5 s5 t5], .bool true], vq6, vq7, .bool true, vq9, vq10, vq13, (by simp only [pus]), hB, p0, p1, p2, p3, p4, (fun _ => ⟨x5, y5, z5, r5, s5, t5, rfl, n5, o5⟩), p6, p7, (fun _ => rfl), p9, p10, p11, p12, p13, q9_10⟩
     · simp only [pus]
       refine any_op (o := _) rfl rfl ?_
       have hb := below_lit W (.cells #[.slice none 0 0] 31)
       have hnb : Bn W1 (W.alloc (.cells #[.slice none 0 0] 31)) (.pointer (some ⟨W.heap.size, 0, none⟩)) := ⟨_, rfl, Blk.new W _ _, hB.size⟩
       go_wp2_with fail
       refine hK.out _ _ ?_
       exact ⟨vq0, vq1, vq2, vq3, vq4, vq5, vq6, vq7, vq8, .pointer (some ⟨W.heap.size, 0, none⟩), vq10, vq13, (by simp only [pus]), hB.trans (hb.mono hB.size), p0, p1, (fun h => (p2 h).below hb), (fun h => (p3 h).below hb), (fun h => (p4 h).below hb), (fun h => (p5 h).below hb), (fun h => (p6 h).below hb), (fun h => (p7 h).below hb), p8, (fun _ _ => hnb), (fun h h2 => (p10 h h2).below hb), (fun h => absurd (hcl 11 9 (by kernel_rfl) h) (by rw [hdi]; simp)), (fun h => (p12 h).below hb), p13, (fun _ h e => (box_ne (p10 h) (p12)) e.symm)⟩
     · simp only [pus]
       refine any_op (o := _) rfl rfl ?_
       have hb := below_lit W (.cells #[.slice none 0 0] 31)
       have hnb : Bn W1 (W.alloc (.cells #[.slice none 0 0] 31)) (.pointer (some ⟨W.heap.size, 0, none⟩)) := ⟨_, rfl, Blk.new W _ _, hB.size⟩
       go_wp2_with fail
       refine hK.out _ _ ?_
       exact ⟨vq0, vq1, vq2, vq3, vq4, vq5, vq6, vq7, vq8, vq9, .pointer (some ⟨W.heap.size, 0, none⟩), vq13, (by simp only [pus]), hB.trans (hb.mono hB.size), p0, p1, (fun h => (p2 h).below hb), (fun h => (p3 h).below hb), (fun h => (p4 h).below hb), (fun h => (p5 h).below hb), (fun h => (p6 h).below hb), (fun h => (p7 h).below hb), p8, (fun h h2 => (p9 h h2).below hb), (fun _ _ => hnb), (fun h => (p11 h).below hb), (fun h => absurd (hcl 12 10 (by kernel_rfl) h) (by rw [hdi]; simp)), p13, (fun h _ e => (box_ne (p9 h) (p11)) e)⟩
     · obtain ⟨b, rfl, hk, hl⟩ := p9 (hdep 9 (by kernel_rfl)) hdi
       have hne10 : dj 10 = true → vq10 ≠ .pointer (some ⟨b, 0, none⟩) := fun h e => q9_10 (hdep 9 (by kernel_rfl)) h e.symm
       obtain ⟨⟨x, y, z, rfl⟩, hn⟩ := p6 (hdep 6 (by kernel_rfl))
       simp only [pus]
       have c0 := hk.cell 0; have c1 := hk.frozen 0
       simp only [List.getElem?_toArray, List.getElem?_cons_zero] at c0
       refine any_op (o := _) rfl rfl ?_
       go_wp2_with fail
       refine hK.out _ _ ?_
       exact ⟨vq0, vq1, vq2, vq3, vq4, vq5, .agg #[.slice x y z], vq7, vq8, .pointer (some ⟨b, 0, none⟩), vq10, vq13, (by simp only [pus]), (hB.setCell (p := ⟨b, 0, none⟩) hl _), p0, p1, (fun h => (p2 h).put hk), (fun h => (p3 h).put hk), (fun h => (p4 h).put hk), (fun h => (p5 h).put hk), (fun h => (p6 h).put hk), (fun h => (p7 h).put hk), p8, (fun _ h => by rw [upd_self] at h; cases h), (fun h h2 => (p10 h h2).far (hne10 h)), (fun _ => ⟨b, x, y, z, rfl, rfl, hk.set_ 0 _, hl⟩), (fun h => (p12 h).far (hne10 (hcl 12 10 (by kernel_rfl) h))), p13, q9_10⟩
     · obtain ⟨b, rfl, hk, hl⟩ := p10 (hdep 10 (by kernel_rfl)) hdi
       have hne9 : dj 9 = true → vq9 ≠ .pointer (some ⟨b, 0, none⟩) := fun h e => q9_10 h (hdep 10 (by kernel_rfl)) e
       obtain ⟨⟨x, y, z, rfl⟩, hn⟩ := p7 (hdep 7 (by kernel_rfl))
       simp only [pus]
       have c0 := hk.cell 0; have c1 := hk.frozen 0
       simp only [List.getElem?_toArray, List.getElem?_cons_zero] at c0
       refine any_op (o := _) rfl rfl ?_
       go_wp2_with fail
       refine hK.out _ _ ?_
       exact ⟨vq0, vq1, vq2, vq3, vq4, vq5, vq6, .agg #[.slice x y z], vq8, vq9, .pointer (some ⟨b, 0, none⟩), vq13, (by simp only [pus]), (hB.setCell (p := ⟨b, 0, none⟩) hl _), p0, p1, (fun h => (p2 h).put hk), (fun h => (p3 h).put hk), (fun h => (p4 h).put hk), (fun h => (p5 h).put hk), (fun h => (p6 h).put hk), (fun h => (p7 h).put hk), p8, (fun h h2 => (p9 h h2).far (hne9 h)), (fun _ h => by rw [upd_self] at h; cases h), (fun h => (p11 h).far (hne9 (hcl 11 9 (by kernel_rfl) h))), (fun _ => ⟨b, x, y, z, rfl, rfl, hk.set_ 0 _, hl⟩), p13, q9_10⟩
     · obtain rfl := p0 (hdep 0 (by kernel_rfl))
       obtain rfl := p1 (hdep 1 (by kernel_rfl))
       have k2 := p2 (hdep 2 (by kernel_rfl))
       obtain ⟨⟨x2, y2, z2, rfl⟩, n2⟩ := k2
       have k3 := p3 (hdep 3 (by kernel_rfl))
       obtain ⟨⟨x3, y3, z3, rfl⟩, n3⟩ := k3
       have k4 := p4 (hdep 4 (by kernel_rfl))
       obtain ⟨x4, y4, z4, r4, s4, t4, rfl, n4, o4⟩ := k4
       have k5 := p5 (hdep 5 (by kernel_rfl))
       obtain ⟨x5, y5, z5, r5, s5, t5, rfl, n5, o5⟩ := k5
       have k6 := p6 (hdep 6 (by kernel_rfl))
       obtain ⟨⟨x6, y6, z6, rfl⟩, n6⟩ := k6
       have k7 := p7 (hdep 7 (by kernel_rfl))
       obtain ⟨⟨x7, y7, z7, rfl⟩, n7⟩ := k7
       obtain rfl := p8 (hdep 8 (by kernel_rfl))
       simp only [pus]
       refine any_op (o := _) rfl rfl ?_
       go_wp2_with fail
       refine hK.out _ _ ?_
       exact ⟨.agg #[.slice xr5 yr5 zr5], .agg #[.bool false, .slice p n c, .slice p' n' c'], .agg #[.slice x2 y2 z2], .agg #[.slice x3 y3 z3], .tuple #[.agg #[.slice x4 y4 z4], .agg #[.slice r4 s4 t4], .bool true], .tuple #[.agg #[.slice x5 y5 z5], .agg #[.slice r5 s5 t5], .bool true], .agg #[.slice x6 y6 z6], .agg #[.slice x7 y7 z7], .bool true, vq9, vq10, .bool true, (by simp only [pus]), hB, (fun _ => rfl), (fun _ => rfl), (fun _ => ⟨⟨x2, y2, z2, rfl⟩, n2⟩), (fun _ => ⟨⟨x3, y3, z3, rfl⟩, n3⟩), (fun _ => ⟨x4, y4, z4, r4, s4, t4, rfl, n4, o4⟩), (fun _ => ⟨x5, y5, z5, r5, s5, t5, rfl, n5, o5⟩), (fun _ => ⟨⟨x6, y6, z6, rfl⟩, n6⟩), (fun _ => ⟨⟨x7, y7, z7, rfl⟩, n7⟩), (fun _ => rfl), p9, p10, p11, p12, (fun _ => rfl), q9_10⟩
   · intro dj a W hd hI
     obtain ⟨vq0, vq1, vq2, vq3, vq4, vq5, vq6, vq7, vq8, vq9, vq10, vq13, rfl, hB, p0, p1, p2, p3, p4, p5, p6, p7, p8, p9, p10, p11, p12, p13, q9_10⟩ := hI
     have V := V2.below hB
     obtain rfl := p0 (hd 0 (by omega))
     obtain rfl := p1 (hd 1 (by omega))
     obtain ⟨⟨xq2, yq2, zq2, rfl⟩, nq2⟩ := p2 (hd 2 (by omega))
     obtain ⟨⟨xq3, yq3, zq3, rfl⟩, nq3⟩ := p3 (hd 3 (by omega))
     obtain ⟨xq4, yq4, zq4, rq4, sq4, tq4, rfl, nq4, oq4⟩ := p4 (hd 4 (by omega))
     obtain ⟨xq5, yq5, zq5, rq5, sq5, tq5, rfl, nq5, oq5⟩ := p5 (hd 5 (by omega))
     obtain ⟨⟨xq6, yq6, zq6, rfl⟩, nq6⟩ := p6 (hd 6 (by omega))
     obtain ⟨⟨xq7, yq7, zq7, rfl⟩, nq7⟩ := p7 (hd 7 (by omega))
     obtain rfl := p8 (hd 8 (by omega))
     obtain ⟨bq11, x9, y9, z9, rfl, e9, kq11, lq11⟩ := p11 (hd 11 (by omega))
     cases e9
     obtain ⟨bq12, x9, y9, z9, rfl, e9, kq12, lq12⟩ := p12 (hd 12 (by omega))
     cases e9
     obtain rfl := p13 (hd 13 (by omega))
     have neq11_12 : bq11 ≠ bq12 := fun e => q9_10 (hd 9 (by omega)) (hd 10 (by omega)) (by rw [e])
     simp only [pus]
     show wpAny Tryz.prog .any _ _ 0 #[true, true, true, true, true, true, true, true, true, true, true, true, true, true] _ _
     have V3 := (((V.cons nq6 HQ.out).cons (isN_zero _) (Nat.pow_pos (by decide))).addbox kq11 (Nat.le_trans V2.bel.size lq11))
     have q4 := V3.n0 0 rfl
     have r0 := V3.c0 2 rfl; have r1 := V3.c1 2 rfl; have r2 := V3.c2 2 rfl
     have f0 := V3.frozen 2 0 rfl; have f1 := V3.frozen 2 1 rfl; have f2 := V3.frozen 2 2 rfl
     have HF := Lib.hid (V3.fin3 (x := ((RN' : Int) : Rat)) (y := false) (q := xq6) (m := yq6) (d := zq6) (q' := none) (m' := 0) (d' := 0) 2 1 0 rfl (by rw [nd_num, HRn.out]; rfl) (by rw [nd_den]; rfl) (by rw [Rat.num_intCast]; simp))
     clear V V2 V3 V0 nq2 nq3 nq4 oq4 nq5 oq5 nq7 kq11 kq12
     refine ⟨by kernel_rfl, ?_⟩
     go_wp2_with fail
     exact bodyPost_ret (res_rat rfl _ _ _ _ _ _ _ _ _ _ rfl HF.out.1) rfl HF.out.2
set_option maxRecDepth 100000 in
set_option maxHeartbeats 2000000 in
theorem round_neg (x : Rat) (va : Value) (w : World) (ha : IsR w va x) (hx : Sz 90 x) (hs : decide (x.num < 0) = true) : Calls Tryz.prog 25 #[va] w (GaveR (-((rndN x : Int) : Rat)) w) := by
 have hx1 := hx.mono (k := 100) (by omega)
 have hR := ha
 obtain ⟨p, n, c, p', n', c', rfl, h1, h2⟩ := ha
 rw [hs] at hR ⊢
 have V0 := ((Mq.refl w).rcons hR).two 33 33 #[.bool true, .slice p n c, .slice p' n' c'] #[.bool false, .slice none 0 0, .slice none 0 0]
 have hsn : Sz 90 (-x) := ⟨by rw [Rat.neg_num, Int.natAbs_neg]; exact hx.1, hx.2⟩
 have hsp : decide ((-x).num < 0) = false := by
  have := of_decide_eq_true hs
  rw [Rat.neg_num]; exact decide_eq_false (by omega)
 have hrn : rndN (-x) = rndN x := by unfold rndN; rw [Rat.neg_num, Int.natAbs_neg]; rfl
 have hsr : Sz 100 ((rndN x : Int) : Rat) := by
  refine ⟨?_, ?_⟩
  · rw [nd_num]
    show rndN x < _
    unfold rndN
    refine Nat.lt_of_le_of_lt (Nat.div_le_self _ _) ?_
    have h3 := hx.1
    have h4 := hx.2
    have h5 := w64_mono (j := 91) (k := 100) (by omega)
    have h6 := Nat.mul_le_mul_left (18446744073709551616 ^ 90) (show 4 ≤ 18446744073709551616 by decide)
    rw [← Nat.pow_succ] at h6
    omega
  · rw [Rat.den_intCast]; exact Nat.one_lt_pow (by decide) (by decide)
 have HO : Hid (∀ W, IsR W (.agg #[.bool true, .slice p n c, .slice p' n' c']) x → Calls Tryz.prog 48 #[.agg #[.bool true, .slice p n c, .slice p' n' c']] W (GaveR (-x) W)) := Lib.hid (fun W h => opp_any x _ W h hx1)
 have HR : Hid (∀ W v, IsR W v (-x) → Calls Tryz.prog 25 #[v] W (GaveR ((rndN x : Int) : Rat) W)) := Lib.hid (fun W v h => by
  have := round_pos (-x) v W h hsn hsp
  rwa [hrn] at this)
 have HO2 : Hid (∀ W v, IsR W v ((rndN x : Int) : Rat) → Calls Tryz.prog 48 #[v] W (GaveR (-((rndN x : Int) : Rat)) W)) := Lib.hid (fun W v h => opp_any _ v W h hsr)
 have b0 := V0.c0 1 rfl; have b1 := V0.c1 1 rfl; have b2 := V0.c2 1 rfl
 obtain ⟨Y, hY⟩ : ∃ Y, -((rndN x : Int) : Rat) = Y := ⟨_, rfl⟩
 have hsY : Sz 100 Y := by rw [← hY]; exact ⟨by rw [Rat.neg_num, Int.natAbs_neg]; exact hsr.1, hsr.2⟩
 rw [hY] at HO2 ⊢
 clear h1 h2 hs hsn hsp hrn hsr hY
 go_enter Tryz.func25, Tryz.ntmps25
 go_wp2_with fail
 refine (HO.out _ (V0.rat 0 _ _ rfl)).mono ?_
 rintro e w2 ⟨v2, rfl, r2, hb2⟩
 have V2 := V0.below hb2
 clear V0 b0 b1 b2
 go_wp2_with fail
 refine (HR.out _ _ r2).mono ?_
 rintro e w3 ⟨v3, rfl, r3, hb3⟩
 have V3 := V2.below hb3
 clear V2 r2
 go_wp2_with fail
 refine (HO2.out _ _ r3).mono ?_
 rintro e w4 ⟨v4, rfl, r4, hb4⟩
 have V4 := V3.below hb4
 obtain ⟨q, m, d, q', m', d', rfl, k1, k2⟩ := r4
 obtain ⟨zy, hzy⟩ : ∃ z, decide (Y.num < 0) = z := ⟨_, rfl⟩
 rw [hzy]
 have V5 := (V4.cons k2 hsY.dn).cons k1 hsY.1
 have r0 := V5.c0 0 rfl; have r1 := V5.c1 0 rfl; have r2 := V5.c2 0 rfl
 have f0 := V5.frozen 0 0 rfl; have f1 := V5.frozen 0 1 rfl; have f2 := V5.frozen 0 2 rfl
 have HF := Lib.hid (V5.fin3 (x := Y) (y := zy) 0 0 1 rfl rfl rfl hzy)
 clear V3 V4 V5 r3 k1 k2 hzy
 go_wp2_with fail
 exact bodyPost_ret (res_rat rfl _ _ _ _ _ _ _ _ _ _ rfl HF.out.1) rfl HF.out.2
end Go.Proofs.YtckglpkafhmehaaGreatDoor
