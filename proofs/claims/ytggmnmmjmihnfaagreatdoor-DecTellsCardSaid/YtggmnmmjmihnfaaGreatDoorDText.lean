/-
 Law 3: the literal of a fraction.
-/
import Derived.Test.YtggmnmmjmihnfaaGreatDoorDPlc
import Derived.Test.YtggmnmmjmihnfaaGreatDoorShelf
namespace Go.Proofs.YtggmnmmjmihnfaaGreatDoor
open Go.RowKit
set_option linter.unusedVariables false
set_option maxRecDepth 100000 in
set_option maxHeartbeats 2000000 in
theorem dtext_none (x : Rat) (va : Value) (w : World) (ha : IsR w va x) (hx : x.den < 18446744073709551616 ^ 100) (hf : rst x.den ≠ 1) : Calls Tryz.prog 13 #[va] w fun e w' => e = .returned (.tuple #[.string ⟨#[]⟩, .int .i64 14]) ∧ Below w.heap.size w w' := by
 have HP : Hid (∀ W v, IsR W v x → Calls Tryz.prog 12 #[v] W fun e w' => e = .returned (.tuple #[.int .i64 0, .bool false]) ∧ Below W.heap.size W w') := Lib.hid (fun W v h => (places_any x v W h hx).mono fun e w' h' => by
  obtain ⟨h1, h2⟩ := h'
  rw [if_neg hf, decide_eq_false hf] at h1
  exact ⟨h1, h2⟩)
 have hR := ha
 obtain ⟨p, n, c, p', n', c', rfl, h1, h2⟩ := ha
 obtain ⟨zs, hz⟩ : ∃ z, decide (x.num < 0) = z := ⟨_, rfl⟩
 rw [hz] at hR ⊢
 have V0 := ((Mq.refl w).rcons hR).alloc 27 #[.bool zs, .slice p n c, .slice p' n' c']
 have b0 := V0.c0 0 rfl; have b1 := V0.c1 0 rfl; have b2 := V0.c2 0 rfl
 clear h1 h2 hR hz hx hf
 go_enter Tryz.func13, Tryz.ntmps13
 go_wp2_with fail
 refine (HP.out _ _ (V0.rat 0 _ _ rfl)).mono ?_
 rintro e w1 ⟨rfl, hb⟩
 have HB := Lib.hid (V0.below hb).bel
 clear V0 hb b0 b1 b2
 go_wp2_with fail
 go_ret2
 exact ⟨rfl, HB.out⟩
set_option maxRecDepth 100000 in
set_option maxHeartbeats 8000000 in
theorem dtext_some (x : Rat) (va : Value) (w : World) (ha : IsR w va x) (hx : Sz 35 x) (hf : rst x.den = 1) (hp : plc x.den ≤ 1200) (htab : Tab w) : Calls Tryz.prog 13 #[va] w fun e w' => e = .returned (.tuple #[.string (ltx x), .int .i64 0]) ∧ Below w.heap.size w w' := by
 have hx1 := hx.mono (k := 100) (by omega)
 have HP : Hid (∀ W v, IsR W v x → Calls Tryz.prog 12 #[v] W fun e w' => e = .returned (.tuple #[.int .i64 (plc x.den : Nat), .bool true]) ∧ Below W.heap.size W w') := Lib.hid (fun W v h => (places_any x v W h hx1.2).mono fun e w' h' => by
  obtain ⟨h1, h2⟩ := h'
  rw [if_pos hf, decide_eq_true hf] at h1
  exact ⟨h1, h2⟩)
 have HBig : Hid (∀ W v, IsR W v x → Calls Tryz.prog 42 #[v] W fun e w' => e = .returned (.bool false) ∧ Below W.heap.size W w') := Lib.hid (fun W v h => big_any x v W h (hx.mono (by omega)))
 have HNum : Hid (∀ W v, IsR W v x → Calls Tryz.prog 44 #[v] W (GaveV x.num.natAbs W)) := Lib.hid (fun W v h => num_any x v W h hx1.1)
 have HDen : Hid (∀ W v, IsR W v x → Calls Tryz.prog 40 #[v] W (GaveV x.den W)) := Lib.hid (fun W v h => den_any x v W h hx1.2)
 have HNeg : Hid (∀ W v, IsR W v x → Calls Tryz.prog 46 #[v] W fun e w' => e = .returned (.bool (decide (x.num < 0))) ∧ Below W.heap.size W w') := Lib.hid (fun W v h => neg_any x v W h)
 have hR := ha
 obtain ⟨p, n, c, p', n', c', rfl, h1, h2⟩ := ha
 have hltx : ltx x = if decide (x.num < 0) = true then ⟨#[45]⟩ ++ ubt x else ubt x := by unfold ltx; by_cases h : x.num < 0 <;> simp [h]
 have hsc : x.num.natAbs * 10 ^ plc x.den / x.den = sct x := rfl
 have hsd : sdg x = if (dg (sct x)).size ≤ plc x.den then ⟨(List.replicate (plc x.den + 1 - (dg (sct x)).size) (48 : UInt8)).toArray⟩ ++ dg (sct x) else dg (sct x) := rfl
 have hub : ubt x = if 0 < plc x.den then (sdg x).extract 0 ((sdg x).size - plc x.den) ++ (⟨#[46]⟩ ++ (sdg x).extract ((sdg x).size - plc x.den) (sdg x).size) else (sdg x).extract 0 ((sdg x).size - plc x.den) := rfl
 have hpr : x.num.natAbs * 10 ^ plc x.den < 18446744073709551616 ^ 99 := dw_mul (j := 35) (k := 64) hx.1 (ten_lt (by omega))
 have hD0 := x.den_pos
 obtain ⟨zs, hz⟩ : ∃ z, decide (x.num < 0) = z := ⟨_, rfl⟩
 rw [hz] at hR HNeg hltx ⊢
 have V0 := ((Mq.refl w).rcons hR).alloc 27 #[.bool zs, .slice p n c, .slice p' n' c']
 have b0 := V0.c0 0 rfl; have b1 := V0.c1 0 rfl; have b2 := V0.c2 0 rfl
 obtain ⟨L, hL⟩ : ∃ L, ltx x = L := ⟨_, rfl⟩
 obtain ⟨U, hU⟩ : ∃ U, ubt x = U := ⟨_, rfl⟩
 obtain ⟨SD, hSD⟩ : ∃ S, sdg x = S := ⟨_, rfl⟩
 obtain ⟨SC, hSC⟩ : ∃ S, sct x = S := ⟨_, rfl⟩
 obtain ⟨P, hP⟩ : ∃ P, plc x.den = P := ⟨_, rfl⟩
 obtain ⟨NU, hNU⟩ : ∃ N, x.num.natAbs = N := ⟨_, rfl⟩
 obtain ⟨D, hD⟩ : ∃ D, x.den = D := ⟨_, rfl⟩
 have h35 := hx.1
 simp only [hL, hU, hSD, hSC, hP, hNU] at HP HNum hltx hsc hsd hub hpr hp h35 ⊢
 simp only [hD] at HDen hsc hD0
 have hten : 10 ^ P < 18446744073709551616 ^ 64 := ten_lt (by omega)
 have HTen : Hid (∀ W, Calls Tryz.prog 23 #[.int .i64 (P : Int)] W (GaveV (10 ^ P) W)) := Lib.hid (fun W => tento_any P _ W (by omega) rfl)
 have hpr1 := dw_up hpr (show 99 ≤ 100 by omega)
 have HMul : Hid (∀ W va vb, IsN W va NU → IsN W vb (10 ^ P) → Calls Tryz.prog 22 #[va, vb] W (GaveV (NU * 10 ^ P) W)) := Lib.hid (fun W va vb h1 h2 => (mul_any _ _ va vb W h1 h2 (dw_up (k := 5000) h35 (by omega)) (dw_up (k := 5000) hten (by omega))).mono fun e w' h' => gaveV h')
 have HDv : Hid (∀ W va vb, IsN W va (NU * 10 ^ P) → IsN W vb D → Calls Tryz.prog 43 #[va, vb] W fun e w' => ∃ x y z x' y' z', e = .returned (.tuple #[.agg #[.slice x y z], .agg #[.slice x' y' z'], .bool true]) ∧ IsN w' (.agg #[.slice x y z]) (NU * 10 ^ P / D) ∧ IsN w' (.agg #[.slice x' y' z']) (NU * 10 ^ P % D) ∧ Below W.heap.size W w') := Lib.hid (fun W va vb h1 h2 => dvm_tr _ D va vb W h1 h2 (dw_up (k := 8000) hpr1 (by omega)) hD0)
 have hrm : NU * 10 ^ P % D < 18446744073709551616 ^ 100 := Nat.lt_of_le_of_lt (Nat.mod_le _ _) hpr1
 rw [hsc] at HDv
 have hsc9 : SC < 18446744073709551616 ^ 99 := by rw [← hsc]; exact Nat.lt_of_le_of_lt (Nat.div_le_self _ _) hpr
 obtain ⟨T, hT⟩ : ∃ T, 10 ^ P = T := ⟨_, rfl⟩
 rw [hT] at HTen HMul HDv hrm
 obtain ⟨PR, hPR⟩ : ∃ R, NU * T = R := ⟨_, rfl⟩
 rw [hPR] at HMul HDv hrm
 obtain ⟨RM, hRM⟩ : ∃ R, PR % D = R := ⟨_, rfl⟩
 rw [hRM] at HDv hrm
 have HQ := Lib.hid (And.intro (dw_up hsc9 (show 99 ≤ 100 by omega)) hrm)
 have hdgs := dg_size hsc9 (by omega)
 have HTx : Hid (∀ W v, Below w.heap.size w W → IsN W v SC → Calls Tryz.prog 27 #[v] W fun e w' => e = .returned (.string (dg SC)) ∧ Below W.heap.size W w') := Lib.hid (fun W v hb h => (text_any SC v W h (htab.below hb (Nat.le_refl _))).mono fun e w' h' => h')
 have hdg0 : 0 < (dg SC).size := by
  show 0 < (Lib.decDigits SC).toArray.size
  rw [List.size_toArray, Lib.decDigits_length]
  exact Lib.nDigits_pos _
 obtain ⟨DG, hDG⟩ : ∃ G, dg SC = G := ⟨_, rfl⟩
 rw [hDG] at HTx hsd hdgs hdg0
 rw [hub] at hltx
 have HFin := Lib.hid hltx
 have Hsd := Lib.hid hsd
 clear h1 h2 hR hz hx hx1 hf htab hL hU hSD hSC hP hNU hD h35 hten hpr hpr1 hrm hsc hsc9 hT hPR hRM hDG hltx hub hsd hD0
 go_enter Tryz.func13, Tryz.ntmps13
 go_wp2_with fail
 refine (HP.out _ _ (V0.rat 0 _ _ rfl)).mono ?_
 rintro e w1 ⟨rfl, hb⟩
 have V0' := V0.below hb
 have b0 := V0'.c0 0 rfl; have b1 := V0'.c1 0 rfl; have b2 := V0'.c2 0 rfl
 clear V0 hb
 have hp12 : ¬ (1200 : Int) < (P : Int) := by omega
 go_wp2_with fail
 refine (HBig.out _ _ (V0'.rat 0 _ _ rfl)).mono ?_
 rintro e W1 ⟨rfl, hb⟩
 have V1 := V0'.below hb
 have b0 := V1.c0 0 rfl; have b1 := V1.c1 0 rfl; have b2 := V1.c2 0 rfl
 clear V0' hb
 go_wp2_with fail
 refine wp_region_inv 17 (fun a0 dj a W => ∃ vq0 vq1 vq2 vq3 vq4 vq5 vq6 vq7 vq8 vq9 vq10 vq11 vq12 vq13 vq16 : Value, a = puts a0 [(26, vq0), (27, vq1), (28, vq2), (29, vq3), (30, vq4), (31, vq5), (32, vq6), (33, vq7), (25, vq8), (34, vq9), (35, vq10), (36, vq11), (6, vq12), (7, vq13), (8, vq16)] ∧ Below W1.heap.size W1 W ∧ (dj 0 = true → vq0 = .agg #[.bool zs, .slice p n c, .slice p' n' c']) ∧ (dj 1 = true → Nm W vq1 (NU)) ∧ (dj 2 = true → vq2 = .int .i64 (P : Int)) ∧ (dj 3 = true → Nm W vq3 (T)) ∧ (dj 4 = true → Nm W vq4 (PR)) ∧ (dj 5 = true → vq5 = .agg #[.bool zs, .slice p n c, .slice p' n' c']) ∧ (dj 6 = true → Nm W vq6 (D)) ∧ (dj 7 = true → Tr W vq7 (SC) (RM)) ∧ (dj 8 = true → Tr W vq8 (SC) (RM)) ∧ (dj 9 = true → Nm W vq9 (SC)) ∧ (dj 10 = true → Nm W vq10 (RM)) ∧ (dj 11 = true → vq11 = .bool true) ∧ (dj 12 = true → dj 14 = false → Bn W1 W vq12) ∧ (dj 13 = true → dj 15 = false → Bn W1 W vq13) ∧ (dj 14 = true → St W1 W vq12 vq9) ∧ (dj 15 = true → St W1 W vq13 vq10) ∧ (dj 16 = true → vq16 = .bool true) ∧ (dj 12 = true → dj 13 = true → vq12 ≠ vq13)) (by kernel_rfl) (by kernel_rfl) (by kernel_rfl) ?_ ?_ ?_ ?_
 · intro dj hcl i hi1 hi2 hd j hj
   exact absurd (Nat.lt_of_lt_of_le hi2 (of_decide_eq_true (by kernel_rfl))) (Nat.not_lt.2 hi1)
 · refine ⟨undef, undef, undef, undef, undef, undef, undef, undef, undef, undef, undef, undef, undef, undef, undef, (by simp only [pus]), (Below.refl _ _).drew, (fun h => by cases h), (fun h => by cases h), (fun h => by cases h), (fun h => by cases h), (fun h => by cases h), (fun h => by cases h), (fun h => by cases h), (fun h => by cases h), (fun h => by cases h), (fun h => by cases h), (fun h => by cases h), (fun h => by cases h), (fun h => by cases h), (fun h => by cases h), (fun h => by cases h), (fun h => by cases h), (fun h => by cases h), (fun h => by cases h)⟩
 · intro dj a W i hi hdi hcl hdep hI K hK
   obtain ⟨vq0, vq1, vq2, vq3, vq4, vq5, vq6, vq7, vq8, vq9, vq10, vq11, vq12, vq13, vq16, rfl, hB, p0, p1, p2, p3, p4, p5, p6, p7, p8, p9, p10, p11, p12, p13, p14, p15, p16, q12_13⟩ := hI
   have V := V1.below hB
   obtain rfl | rfl | rfl | rfl | rfl | rfl | rfl | rfl | rfl | rfl | rfl | rfl | rfl | rfl | rfl | rfl | rfl : i = 0 ∨ i = 1 ∨ i = 2 ∨ i = 3 ∨ i = 4 ∨ i = 5 ∨ i = 6 ∨ i = 7 ∨ i = 8 ∨ i = 9 ∨ i = 10 ∨ i = 11 ∨ i = 12 ∨ i = 13 ∨ i = 14 ∨ i = 15 ∨ i = 16 := by omega
   · simp only [pus]
     have c0 := V.c0 0 rfl
     have c1 := V.c1 0 rfl
     have c2 := V.c2 0 rfl
     refine any_op (o := _) rfl rfl ?_
     go_wp2_with fail
     refine hK.out _ _ ?_
     exact ⟨.agg #[.bool zs, .slice p n c, .slice p' n' c'], vq1, vq2, vq3, vq4, vq5, vq6, vq7, vq8, vq9, vq10, vq11, vq12, vq13, vq16, (by simp only [pus]), hB, (fun _ => rfl), p1, p2, p3, p4, p5, p6, p7, p8, p9, p10, p11, p12, p13, p14, p15, p16, q12_13⟩
   · obtain rfl := p0 (hdep 0 (by kernel_rfl))
     simp only [pus]
     refine any_op (o := _) rfl rfl ?_
     have hC := Lib.hid (HNum.out W _ (V.rat 0 _ _ rfl))
     go_simp
     refine hC.out.mono ?_
     rintro e W2 ⟨x, y, z, rfl, hn, hb⟩
     refine hK.out _ _ ?_
     exact ⟨.agg #[.bool zs, .slice p n c, .slice p' n' c'], .agg #[.slice x y z], vq2, vq3, vq4, vq5, vq6, vq7, vq8, vq9, vq10, vq11, vq12, vq13, vq16, (by simp only [pus]), hB.trans (hb.mono hB.size), (fun _ => rfl), (fun _ => ⟨⟨x, y, z, rfl⟩, hn⟩), p2, (fun h => (p3 h).below hb), (fun h => (p4 h).below hb), p5, (fun h => (p6 h).below hb), (fun h => (p7 h).below hb), (fun h => (p8 h).below hb), (fun h => (p9 h).below hb), (fun h => (p10 h).below hb), p11, (fun h h2 => (p12 h h2).below hb), (fun h h2 => (p13 h h2).below hb), (fun h => (p14 h).below hb), (fun h => (p15 h).below hb), p16, q12_13⟩
   · simp only [pus]
     refine any_op (o := _) rfl rfl ?_
     go_wp2_with fail
     refine hK.out _ _ ?_
     exact ⟨vq0, vq1, .int .i64 (P : Int), vq3, vq4, vq5, vq6, vq7, vq8, vq9, vq10, vq11, vq12, vq13, vq16, (by simp only [pus]), hB, p0, p1, (fun _ => rfl), p3, p4, p5, p6, p7, p8, p9, p10, p11, p12, p13, p14, p15, p16, q12_13⟩
   · have k1 := p1 (hdep 1 (by kernel_rfl))
     obtain ⟨⟨x1, y1, z1, rfl⟩, n1⟩ := k1
     obtain rfl := p2 (hdep 2 (by kernel_rfl))
     simp only [pus]
     refine any_op (o := _) rfl rfl ?_
     have hC := Lib.hid (HTen.out W)
     go_simp
     refine hC.out.mono ?_
     rintro e W2 ⟨x, y, z, rfl, hn, hb⟩
     refine hK.out _ _ ?_
     exact ⟨vq0, .agg #[.slice x1 y1 z1], .int .i64 (P : Int), .agg #[.slice x y z], vq4, vq5, vq6, vq7, vq8, vq9, vq10, vq11, vq12, vq13, vq16, (by simp only [pus]), hB.trans (hb.mono hB.size), p0, (fun _ => (show Nm _ _ _ from ⟨⟨x1, y1, z1, rfl⟩, n1⟩).below hb), (fun _ => rfl), (fun _ => ⟨⟨x, y, z, rfl⟩, hn⟩), (fun h => (p4 h).below hb), p5, (fun h => (p6 h).below hb), (fun h => (p7 h).below hb), (fun h => (p8 h).below hb), (fun h => (p9 h).below hb), (fun h => (p10 h).below hb), p11, (fun h h2 => (p12 h h2).below hb), (fun h h2 => (p13 h h2).below hb), (fun h => (p14 h).below hb), (fun h => (p15 h).below hb), p16, q12_13⟩
   · have k1 := p1 (hdep 1 (by kernel_rfl))
     obtain ⟨⟨x1, y1, z1, rfl⟩, n1⟩ := k1
     have k3 := p3 (hdep 3 (by kernel_rfl))
     obtain ⟨⟨x3, y3, z3, rfl⟩, n3⟩ := k3
     simp only [pus]
     refine any_op (o := _) rfl rfl ?_
     have hC := Lib.hid (HMul.out W _ _ n1 n3)
     go_simp
     refine hC.out.mono ?_
     rintro e W2 ⟨x, y, z, rfl, hn, hb⟩
     refine hK.out _ _ ?_
     exact ⟨vq0, .agg #[.slice x1 y1 z1], vq2, .agg #[.slice x3 y3 z3], .agg #[.slice x y z], vq5, vq6, vq7, vq8, vq9, vq10, vq11, vq12, vq13, vq16, (by simp only [pus]), hB.trans (hb.mono hB.size), p0, (fun _ => (show Nm _ _ _ from ⟨⟨x1, y1, z1, rfl⟩, n1⟩).below hb), p2, (fun _ => (show Nm _ _ _ from ⟨⟨x3, y3, z3, rfl⟩, n3⟩).below hb), (fun _ => ⟨⟨x, y, z, rfl⟩, hn⟩), p5, (fun h => (p6 h).below hb), (fun h => (p7 h).below hb), (fun h => (p8 h).below hb), (fun h => (p9 h).below hb), (fun h => (p10 h).below hb), p11, (fun h h2 => (p12 h h2).below hb), (fun h h2 => (p13 h h2).below hb), (fun h => (p14 h).below hb), (fun h => (p15 h).below hb), p16, q12_13⟩
   · simp only [pus]
     have c0 := V.c0 0 rfl
     have c1 := V.c1 0 rfl
     have c2 := V.c2 0 rfl
     refine any_op (o := _) rfl rfl ?_
     go_wp2_with fail
     refine hK.out _ _ ?_
     exact ⟨vq0, vq1, vq2, vq3, vq4, .agg #[.bool zs, .slice p n c, .slice p' n' c'], vq6, vq7, vq8, vq9, vq10, vq11, vq12, vq13, vq16, (by simp only [pus]), hB, p0, p1, p2, p3, p4, (fun _ => rfl), p6, p7, p8, p9, p10, p11, p12, p13, p14, p15, p16, q12_13⟩
   · have k4 := p4 (hdep 4 (by kernel_rfl))
     obtain ⟨⟨x4, y4, z4, rfl⟩, n4⟩ := k4
     obtain rfl := p5 (hdep 5 (by kernel_rfl))
     simp only [pus]
     refine any_op (o := _) rfl rfl ?_
     have hC := Lib.hid (HDen.out W _ (V.rat 0 _ _ rfl))
     go_simp
     refine hC.out.mono ?_
     rintro e W2 ⟨x, y, z, rfl, hn, hb⟩
     refine hK.out _ _ ?_
     exact ⟨vq0, vq1, vq2, vq3, .agg #[.slice x4 y4 z4], .agg #[.bool zs, .slice p n c, .slice p' n' c'], .agg #[.slice x y z], vq7, vq8, vq9, vq10, vq11, vq12, vq13, vq16, (by simp only [pus]), hB.trans (hb.mono hB.size), p0, (fun h => (p1 h).below hb), p2, (fun h => (p3 h).below hb), (fun _ => (show Nm _ _ _ from ⟨⟨x4, y4, z4, rfl⟩, n4⟩).below hb), (fun _ => rfl), (fun _ => ⟨⟨x, y, z, rfl⟩, hn⟩), (fun h => (p7 h).below hb), (fun h => (p8 h).below hb), (fun h => (p9 h).below hb), (fun h => (p10 h).below hb), p11, (fun h h2 => (p12 h h2).below hb), (fun h h2 => (p13 h h2).below hb), (fun h => (p14 h).below hb), (fun h => (p15 h).below hb), p16, q12_13⟩
   · have k4 := p4 (hdep 4 (by kernel_rfl))
     obtain ⟨⟨x4, y4, z4, rfl⟩, n4⟩ := k4
     have k6 := p6 (hdep 6 (by kernel_rfl))
     obtain ⟨⟨x6, y6, z6, rfl⟩, n6⟩ := k6
     simp only [pus]
     refine any_op (o := _) rfl rfl ?_
     have hC := Lib.hid (HDv.out W _ _ n4 n6)
     go_simp
     refine hC.out.mono ?_
     rintro e W2 ⟨x, y, z, x9, y9, z9, rfl, hn, hn9, hb⟩
     refine hK.out _ _ ?_
     exact ⟨vq0, vq1, vq2, vq3, .agg #[.slice x4 y4 z4], vq5, .agg #[.slice x6 y6 z6], .tuple #[.agg #[.slice x y z], .agg #[.slice x9 y9 z9], .bool true], vq8, vq9, vq10, vq11, vq12, vq13, vq16, (by simp only [pus]), hB.trans (hb.mono hB.size), p0, (fun h => (p1 h).below hb), p2, (fun h => (p3 h).below hb), (fun _ => (show Nm _ _ _ from ⟨⟨x4, y4, z4, rfl⟩, n4⟩).below hb), p5, (fun _ => (show Nm _ _ _ from ⟨⟨x6, y6, z6, rfl⟩, n6⟩).below hb), (fun _ => ⟨x, y, z, x9, y9, z9, rfl, hn, hn9⟩), (fun h => (p8 h).below hb), (fun h => (p9 h).below hb), (fun h => (p10 h).below hb), p11, (fun h h2 => (p12 h h2).below hb), (fun h h2 => (p13 h h2).below hb), (fun h => (p14 h).below hb), (fun h => (p15 h).below hb), p16, q12_13⟩
   · have k7 := p7 (hdep 7 (by kernel_rfl))
     obtain ⟨x7, y7, z7, r7, s7, t7, rfl, n7, o7⟩ := k7
     simp only [pus]
     refine any_op (o := _) rfl rfl ?_
     go_wp2_with fail
     refine hK.out _ _ ?_
     exact ⟨vq0, vq1, vq2, vq3, vq4, vq5, vq6, .tuple #[.agg #[.slice x7 y7 z7], .agg #[.slice r7 s7 t7], .bool true], .tuple #[.agg #[.slice x7 y7 z7], .agg #[.slice r7 s7 t7], .bool true], vq9, vq10, vq11, vq12, vq13, vq16, (by simp only [pus]), hB, p0, p1, p2, p3, p4, p5, p6, (fun _ => ⟨x7, y7, z7, r7, s7, t7, rfl, n7, o7⟩), (fun _ => ⟨x7, y7, z7, r7, s7, t7, rfl, n7, o7⟩), p9, p10, p11, p12, p13, p14, p15, p16, q12_13⟩
   · have k8 := p8 (hdep 8 (by kernel_rfl))
     obtain ⟨x8, y8, z8, r8, s8, t8, rfl, n8, o8⟩ := k8
     simp only [pus]
     refine any_op (o := _) rfl rfl ?_
     go_wp2_with fail
     refine hK.out _ _ ?_
     exact ⟨vq0, vq1, vq2, vq3, vq4, vq5, vq6, vq7, .tuple #[.agg #[.slice x8 y8 z8], .agg #[.slice r8 s8 t8], .bool true], .agg #[.slice x8 y8 z8], vq10, vq11, vq12, vq13, vq16, (by simp only [pus]), hB, p0, p1, p2, p3, p4, p5, p6, p7, (fun _ => ⟨x8, y8, z8, r8, s8, t8, rfl, n8, o8⟩), (fun _ => ⟨⟨x8, y8, z8, rfl⟩, n8⟩), p10, p11, p12, p13, (fun h => absurd (hcl 14 9 (by kernel_rfl) h) (by rw [hdi]; simp)), p15, p16, q12_13⟩
   · have k8 := p8 (hdep 8 (by kernel_rfl))
     obtain ⟨x8, y8, z8, r8, s8, t8, rfl, n8, o8⟩ := k8
     simp only [pus]
     refine any_op (o := _) rfl rfl ?_
     go_wp2_with fail
     refine hK.out _ _ ?_
     exact ⟨vq0, vq1, vq2, vq3, vq4, vq5, vq6, vq7, .tuple #[.agg #[.slice x8 y8 z8], .agg #[.slice r8 s8 t8], .bool true], vq9, .agg #[.slice r8 s8 t8], vq11, vq12, vq13, vq16, (by simp only [pus]), hB, p0, p1, p2, p3, p4, p5, p6, p7, (fun _ => ⟨x8, y8, z8, r8, s8, t8, rfl, n8, o8⟩), p9, (fun _ => ⟨⟨r8, s8, t8, rfl⟩, o8⟩), p11, p12, p13, p14, (fun h => absurd (hcl 15 10 (by kernel_rfl) h) (by rw [hdi]; simp)), p16, q12_13⟩
   · have k8 := p8 (hdep 8 (by kernel_rfl))
     obtain ⟨x8, y8, z8, r8, s8, t8, rfl, n8, o8⟩ := k8
     simp only [pus]
     refine any_op (o := _) rfl rfl ?_
     go_wp2_with fail
     refine hK.out _ _ ?_
     exact ⟨vq0, vq1, vq2, vq3, vq4, vq5, vq6, vq7, .tuple #[.agg #[.slice x8 y8 z8], .agg #[.slice r8 s8 t8], .bool true], vq9, vq10, .bool true, vq12, vq13, vq16, (by simp only [pus]), hB, p0, p1, p2, p3, p4, p5, p6, p7, (fun _ => ⟨x8, y8, z8, r8, s8, t8, rfl, n8, o8⟩), p9, p10, (fun _ => rfl), p12, p13, p14, p15, p16, q12_13⟩
   · simp only [pus]
     refine any_op (o := _) rfl rfl ?_
     have hb := below_lit W (.cells #[.slice none 0 0] 25)
     have hnb : Bn W1 (W.alloc (.cells #[.slice none 0 0] 25)) (.pointer (some ⟨W.heap.size, 0, none⟩)) := ⟨_, rfl, Blk.new W _ _, hB.size⟩
     go_wp2_with fail
     refine hK.out _ _ ?_
     exact ⟨vq0, vq1, vq2, vq3, vq4, vq5, vq6, vq7, vq8, vq9, vq10, vq11, .pointer (some ⟨W.heap.size, 0, none⟩), vq13, vq16, (by simp only [pus]), hB.trans (hb.mono hB.size), p0, (fun h => (p1 h).below hb), p2, (fun h => (p3 h).below hb), (fun h => (p4 h).below hb), p5, (fun h => (p6 h).below hb), (fun h => (p7 h).below hb), (fun h => (p8 h).below hb), (fun h => (p9 h).below hb), (fun h => (p10 h).below hb), p11, (fun _ _ => hnb), (fun h h2 => (p13 h h2).below hb), (fun h => absurd (hcl 14 12 (by kernel_rfl) h) (by rw [hdi]; simp)), (fun h => (p15 h).below hb), p16, (fun _ h e => (box_ne (p13 h) (p15)) e.symm)⟩
   · simp only [pus]
     refine any_op (o := _) rfl rfl ?_
     have hb := below_lit W (.cells #[.slice none 0 0] 25)
     have hnb : Bn W1 (W.alloc (.cells #[.slice none 0 0] 25)) (.pointer (some ⟨W.heap.size, 0, none⟩)) := ⟨_, rfl, Blk.new W _ _, hB.size⟩
     go_wp2_with fail
     refine hK.out _ _ ?_
     exact ⟨vq0, vq1, vq2, vq3, vq4, vq5, vq6, vq7, vq8, vq9, vq10, vq11, vq12, .pointer (some ⟨W.heap.size, 0, none⟩), vq16, (by simp only [pus]), hB.trans (hb.mono hB.size), p0, (fun h => (p1 h).below hb), p2, (fun h => (p3 h).below hb), (fun h => (p4 h).below hb), p5, (fun h => (p6 h).below hb), (fun h => (p7 h).below hb), (fun h => (p8 h).below hb), (fun h => (p9 h).below hb), (fun h => (p10 h).below hb), p11, (fun h h2 => (p12 h h2).below hb), (fun _ _ => hnb), (fun h => (p14 h).below hb), (fun h => absurd (hcl 15 13 (by kernel_rfl) h) (by rw [hdi]; simp)), p16, (fun h _ e => (box_ne (p12 h) (p14)) e)⟩
   · obtain ⟨b, rfl, hk, hl⟩ := p12 (hdep 12 (by kernel_rfl)) hdi
     have hne13 : dj 13 = true → vq13 ≠ .pointer (some ⟨b, 0, none⟩) := fun h e => q12_13 (hdep 12 (by kernel_rfl)) h e.symm
     obtain ⟨⟨x, y, z, rfl⟩, hn⟩ := p9 (hdep 9 (by kernel_rfl))
     simp only [pus]
     have c0 := hk.cell 0; have c1 := hk.frozen 0
     simp only [List.getElem?_toArray, List.getElem?_cons_zero] at c0
     refine any_op (o := _) rfl rfl ?_
     go_wp2_with fail
     refine hK.out _ _ ?_
     exact ⟨vq0, vq1, vq2, vq3, vq4, vq5, vq6, vq7, vq8, .agg #[.slice x y z], vq10, vq11, .pointer (some ⟨b, 0, none⟩), vq13, vq16, (by simp only [pus]), (hB.setCell (p := ⟨b, 0, none⟩) hl _), p0, (fun h => (p1 h).put hk), p2, (fun h => (p3 h).put hk), (fun h => (p4 h).put hk), p5, (fun h => (p6 h).put hk), (fun h => (p7 h).put hk), (fun h => (p8 h).put hk), (fun h => (p9 h).put hk), (fun h => (p10 h).put hk), p11, (fun _ h => by rw [upd_self] at h; cases h), (fun h h2 => (p13 h h2).far (hne13 h)), (fun _ => ⟨b, x, y, z, rfl, rfl, hk.set_ 0 _, hl⟩), (fun h => (p15 h).far (hne13 (hcl 15 13 (by kernel_rfl) h))), p16, q12_13⟩
   · obtain ⟨b, rfl, hk, hl⟩ := p13 (hdep 13 (by kernel_rfl)) hdi
     have hne12 : dj 12 = true → vq12 ≠ .pointer (some ⟨b, 0, none⟩) := fun h e => q12_13 h (hdep 13 (by kernel_rfl)) e
     obtain ⟨⟨x, y, z, rfl⟩, hn⟩ := p10 (hdep 10 (by kernel_rfl))
     simp only [pus]
     have c0 := hk.cell 0; have c1 := hk.frozen 0
     simp only [List.getElem?_toArray, List.getElem?_cons_zero] at c0
     refine any_op (o := _) rfl rfl ?_
     go_wp2_with fail
     refine hK.out _ _ ?_
     exact ⟨vq0, vq1, vq2, vq3, vq4, vq5, vq6, vq7, vq8, vq9, .agg #[.slice x y z], vq11, vq12, .pointer (some ⟨b, 0, none⟩), vq16, (by simp only [pus]), (hB.setCell (p := ⟨b, 0, none⟩) hl _), p0, (fun h => (p1 h).put hk), p2, (fun h => (p3 h).put hk), (fun h => (p4 h).put hk), p5, (fun h => (p6 h).put hk), (fun h => (p7 h).put hk), (fun h => (p8 h).put hk), (fun h => (p9 h).put hk), (fun h => (p10 h).put hk), p11, (fun h h2 => (p12 h h2).far (hne12 h)), (fun _ h => by rw [upd_self] at h; cases h), (fun h => (p14 h).far (hne12 (hcl 14 12 (by kernel_rfl) h))), (fun _ => ⟨b, x, y, z, rfl, rfl, hk.set_ 0 _, hl⟩), p16, q12_13⟩
   · obtain rfl := p0 (hdep 0 (by kernel_rfl))
     have k1 := p1 (hdep 1 (by kernel_rfl))
     obtain ⟨⟨x1, y1, z1, rfl⟩, n1⟩ := k1
     obtain rfl := p2 (hdep 2 (by kernel_rfl))
     have k3 := p3 (hdep 3 (by kernel_rfl))
     obtain ⟨⟨x3, y3, z3, rfl⟩, n3⟩ := k3
     have k4 := p4 (hdep 4 (by kernel_rfl))
     obtain ⟨⟨x4, y4, z4, rfl⟩, n4⟩ := k4
     obtain rfl := p5 (hdep 5 (by kernel_rfl))
     have k6 := p6 (hdep 6 (by kernel_rfl))
     obtain ⟨⟨x6, y6, z6, rfl⟩, n6⟩ := k6
     have k7 := p7 (hdep 7 (by kernel_rfl))
     obtain ⟨x7, y7, z7, r7, s7, t7, rfl, n7, o7⟩ := k7
     have k8 := p8 (hdep 8 (by kernel_rfl))
     obtain ⟨x8, y8, z8, r8, s8, t8, rfl, n8, o8⟩ := k8
     have k9 := p9 (hdep 9 (by kernel_rfl))
     obtain ⟨⟨x9, y9, z9, rfl⟩, n9⟩ := k9
     have k10 := p10 (hdep 10 (by kernel_rfl))
     obtain ⟨⟨x10, y10, z10, rfl⟩, n10⟩ := k10
     obtain rfl := p11 (hdep 11 (by kernel_rfl))
     simp only [pus]
     refine any_op (o := _) rfl rfl ?_
     go_wp2_with fail
     refine hK.out _ _ ?_
     exact ⟨.agg #[.bool zs, .slice p n c, .slice p' n' c'], .agg #[.slice x1 y1 z1], .int .i64 (P : Int), .agg #[.slice x3 y3 z3], .agg #[.slice x4 y4 z4], .agg #[.bool zs, .slice p n c, .slice p' n' c'], .agg #[.slice x6 y6 z6], .tuple #[.agg #[.slice x7 y7 z7], .agg #[.slice r7 s7 t7], .bool true], .tuple #[.agg #[.slice x8 y8 z8], .agg #[.slice r8 s8 t8], .bool true], .agg #[.slice x9 y9 z9], .agg #[.slice x10 y10 z10], .bool true, vq12, vq13, .bool true, (by simp only [pus]), hB, (fun _ => rfl), (fun _ => ⟨⟨x1, y1, z1, rfl⟩, n1⟩), (fun _ => rfl), (fun _ => ⟨⟨x3, y3, z3, rfl⟩, n3⟩), (fun _ => ⟨⟨x4, y4, z4, rfl⟩, n4⟩), (fun _ => rfl), (fun _ => ⟨⟨x6, y6, z6, rfl⟩, n6⟩), (fun _ => ⟨x7, y7, z7, r7, s7, t7, rfl, n7, o7⟩), (fun _ => ⟨x8, y8, z8, r8, s8, t8, rfl, n8, o8⟩), (fun _ => ⟨⟨x9, y9, z9, rfl⟩, n9⟩), (fun _ => ⟨⟨x10, y10, z10, rfl⟩, n10⟩), (fun _ => rfl), p12, p13, p14, p15, (fun _ => rfl), q12_13⟩
 · intro dj a W hd hI
   obtain ⟨vq0, vq1, vq2, vq3, vq4, vq5, vq6, vq7, vq8, vq9, vq10, vq11, vq12, vq13, vq16, rfl, hB, p0, p1, p2, p3, p4, p5, p6, p7, p8, p9, p10, p11, p12, p13, p14, p15, p16, q12_13⟩ := hI
   have V := V1.below hB
   obtain rfl := p0 (hd 0 (by omega))
   obtain ⟨⟨xq1, yq1, zq1, rfl⟩, nq1⟩ := p1 (hd 1 (by omega))
   obtain rfl := p2 (hd 2 (by omega))
   obtain ⟨⟨xq3, yq3, zq3, rfl⟩, nq3⟩ := p3 (hd 3 (by omega))
   obtain ⟨⟨xq4, yq4, zq4, rfl⟩, nq4⟩ := p4 (hd 4 (by omega))
   obtain rfl := p5 (hd 5 (by omega))
   obtain ⟨⟨xq6, yq6, zq6, rfl⟩, nq6⟩ := p6 (hd 6 (by omega))
   obtain ⟨xq7, yq7, zq7, rq7, sq7, tq7, rfl, nq7, oq7⟩ := p7 (hd 7 (by omega))
   obtain ⟨xq8, yq8, zq8, rq8, sq8, tq8, rfl, nq8, oq8⟩ := p8 (hd 8 (by omega))
   obtain ⟨⟨xq9, yq9, zq9, rfl⟩, nq9⟩ := p9 (hd 9 (by omega))
   obtain ⟨⟨xq10, yq10, zq10, rfl⟩, nq10⟩ := p10 (hd 10 (by omega))
   obtain rfl := p11 (hd 11 (by omega))
   obtain ⟨bq14, x9, y9, z9, rfl, e9, kq14, lq14⟩ := p14 (hd 14 (by omega))
   cases e9
   obtain ⟨bq15, x9, y9, z9, rfl, e9, kq15, lq15⟩ := p15 (hd 15 (by omega))
   cases e9
   obtain rfl := p16 (hd 16 (by omega))
   have neq14_15 : bq14 ≠ bq15 := fun e => q12_13 (hd 12 (by omega)) (hd 13 (by omega)) (by rw [e])
   simp only [pus]
   show wpAny Tryz.prog .any _ _ 0 #[true, true, true, true, true, true, true, true, true, true, true, true, true, true, true, true, true] _ _
   have V2 := (((V.cons nq9 HQ.out.1).cons nq10 HQ.out.2).addbox kq14 (Nat.le_trans V1.bel.size lq14))
   have g0 := V2.n0 0 rfl
   have b0 := V2.c0 1 rfl; have b1 := V2.c1 1 rfl; have b2 := V2.c2 1 rfl
   clear V V1 nq1 nq3 nq4 nq6 nq7 oq7 nq8 oq8 nq9 nq10 kq14 kq15
   refine ⟨by kernel_rfl, ?_⟩
   go_wp2_with fail
   refine (HTx.out _ _ V2.bel (V2.num 1 _ _ rfl).1).mono ?_
   rintro e w3 ⟨rfl, hb⟩
   have V3 := V2.below hb
   clear V2 hb
   have b0 := V3.c0 1 rfl; have b1 := V3.c1 1 rfl; have b2 := V3.c2 1 rfl
   by_cases hle : DG.size ≤ P
   · have hlei : (DG.size : Int) ≤ (P : Int) := by omega
     have hS := Hsd.out
     rw [if_pos hle] at hS
     obtain ⟨k, hk⟩ : ∃ k : Nat, P + 1 - DG.size = k := ⟨_, rfl⟩
     have hki : (P : Int) + 1 - (DG.size : Int) = (k : Int) := by omega
     rw [hk] at hS
     obtain ⟨PZ, hPZ⟩ : ∃ Z : ByteArray, ⟨(List.replicate k (48 : UInt8)).toArray⟩ = Z := ⟨_, rfl⟩
     have hPZs : PZ.size = k := by rw [← hPZ]; show (List.replicate k (48 : UInt8)).toArray.size = k; simp
     have HRep : Hid (∀ W, Calls Tryz.prog 45 #[.string ⟨#[48]⟩, .int .i64 (k : Int)] W fun e w' => e = .returned (.string PZ) ∧ Below W.heap.size W w') := Lib.hid (fun W => by
      have h1 : (⟨#[48]⟩ : ByteArray).size = 1 := rfl
      refine (Tryz.strings_Repeat ⟨#[48]⟩ k W (by omega) (by rw [h1]; omega)).mono ?_
      rintro e w' ⟨he, hb⟩
      refine ⟨?_, hb⟩
      rw [he, ← hPZ]
      show Ending.returned (.string ⟨(Lib.repeatL [48] k).toArray⟩) = _
      rw [repeat_48])
     have hSz : PZ.size + DG.size = P + 1 := by omega
     rw [hPZ] at hS
     obtain ⟨S, hSe⟩ : ∃ S, PZ ++ DG = S := ⟨_, rfl⟩
     have hSs : S.size = P + 1 := by rw [← hSe, ByteArray.size_append]; exact hSz
     rw [hSe] at hS
     rw [hS] at HFin
     obtain ⟨pt, hpt⟩ : ∃ pt : Nat, S.size - P = pt := ⟨_, rfl⟩
     rw [hpt] at HFin
     have hpti : (S.size : Int) - (P : Int) = (pt : Int) := by omega
     have hptle : pt ≤ S.size := by omega
     have hP : 0 < P := by omega
     have hcat : ¬ 9223372036854775807 < PZ.size + DG.size := by omega
     have hSl : S.size ≤ 1300 := by omega
     clear hS hle hk hPZ hpt Hsd hPZs hSz hSs
     go_wp2_with fail
     refine (HRep.out _).mono ?_
     rintro e w3r ⟨rfl, hb⟩
     have V3' := V3.below hb
     clear V3 hb HRep
     have V3 := V3'
     clear V3'
     have b0 := V3.c0 1 rfl; have b1 := V3.c1 1 rfl; have b2 := V3.c2 1 rfl
     have hp0 : (0 : Int) < (P : Int) := by omega
     have hsz1 : 1 + (S.extract pt S.size).size ≤ 4000 := by rw [ByteArray.size_extract]; omega
     have hsz2 : (S.extract 0 pt).size ≤ 4000 := by rw [ByteArray.size_extract]; omega
     rw [if_pos hP] at HFin
     clear hP
     have hsz3 : (S.extract 0 pt ++ (⟨#[46]⟩ ++ S.extract pt S.size)).size ≤ 9000 := by rw [ByteArray.size_append, ByteArray.size_append]; simp only [show (⟨#[46]⟩ : ByteArray).size = 1 from rfl]; omega
     go_wp2_with fail
     refine (HNeg.out _ _ (V3.rat 0 _ _ rfl)).mono ?_
     rintro e w4 ⟨rfl, hb⟩
     have HB := Lib.hid (V3.below hb).bel
     clear V3 hb b0 b1 b2
     cases zs with
     | false =>
      rw [if_neg (by simp)] at HFin
      go_wp2_with fail
      go_ret2
      exact ⟨by rw [HFin.out]; first | done | rfl, HB.out⟩
     | true =>
      rw [if_pos rfl] at HFin
      go_wp2_with fail
      go_ret2
      exact ⟨by rw [HFin.out]; first | done | rfl, HB.out⟩
   · have hlei : ¬ (DG.size : Int) ≤ (P : Int) := by omega
     have hS := Hsd.out
     rw [if_neg hle] at hS
     rw [hS] at HFin
     obtain ⟨pt, hpt⟩ : ∃ pt : Nat, DG.size - P = pt := ⟨_, rfl⟩
     rw [hpt] at HFin
     have hpti : (DG.size : Int) - (P : Int) = (pt : Int) := by omega
     have hptle : pt ≤ DG.size := by omega
     clear hS hle hpt Hsd
     by_cases hP : 0 < P
     · have hp0 : (0 : Int) < (P : Int) := by omega
       have hsz1 : 1 + (DG.extract pt DG.size).size ≤ 4000 := by rw [ByteArray.size_extract]; omega
       have hsz2 : (DG.extract 0 pt).size ≤ 4000 := by rw [ByteArray.size_extract]; omega
       rw [if_pos hP] at HFin
       clear hP
       have hsz3 : (DG.extract 0 pt ++ (⟨#[46]⟩ ++ DG.extract pt DG.size)).size ≤ 9000 := by rw [ByteArray.size_append, ByteArray.size_append]; simp only [show (⟨#[46]⟩ : ByteArray).size = 1 from rfl]; omega
       go_wp2_with fail
       refine (HNeg.out _ _ (V3.rat 0 _ _ rfl)).mono ?_
       rintro e w4 ⟨rfl, hb⟩
       have HB := Lib.hid (V3.below hb).bel
       clear V3 hb b0 b1 b2
       cases zs with
       | false =>
        rw [if_neg (by simp)] at HFin
        go_wp2_with fail
        go_ret2
        exact ⟨by rw [HFin.out]; first | done | rfl, HB.out⟩
       | true =>
        rw [if_pos rfl] at HFin
        go_wp2_with fail
        go_ret2
        exact ⟨by rw [HFin.out]; first | done | rfl, HB.out⟩
     · have hp0 : ¬ (0 : Int) < (P : Int) := by omega
       have hsz2 : (DG.extract 0 pt).size ≤ 4000 := by rw [ByteArray.size_extract]; omega
       rw [if_neg hP] at HFin
       clear hP
       go_wp2_with fail
       refine (HNeg.out _ _ (V3.rat 0 _ _ rfl)).mono ?_
       rintro e w4 ⟨rfl, hb⟩
       have HB := Lib.hid (V3.below hb).bel
       clear V3 hb b0 b1 b2
       cases zs with
       | false =>
        rw [if_neg (by simp)] at HFin
        go_wp2_with fail
        go_ret2
        exact ⟨by rw [HFin.out]; first | done | rfl, HB.out⟩
       | true =>
        rw [if_pos rfl] at HFin
        go_wp2_with fail
        go_ret2
        exact ⟨by rw [HFin.out]; first | done | rfl, HB.out⟩
end Go.Proofs.YtggmnmmjmihnfaaGreatDoor
