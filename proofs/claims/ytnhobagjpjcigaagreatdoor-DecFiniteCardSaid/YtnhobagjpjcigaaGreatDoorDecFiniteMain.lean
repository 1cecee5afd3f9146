/-
 The walk of DecFinite: for every input it returns true, and leaves what lay in memory as it was.
-/
import Derived.Test.YtnhobagjpjcigaaGreatDoorDAlive
import Derived.Test.YtnhobagjpjcigaaGreatDoorDFin
namespace Go.Proofs.YtnhobagjpjcigaaGreatDoor
open Go.RowKit
set_option linter.unusedVariables false
theorem and_three (O : Int) (_ : -9223372036854775808 ≤ O) (_ : O ≤ 9223372036854775807) : ∃ j : Nat, j < 4 ∧ bits .and .i64 O 3 = (j : Int) := by
 have h : (BitVec.ofInt 64 O &&& BitVec.ofInt 64 3).toNat < 4 := by
  rw [BitVec.toNat_and]
  exact Nat.lt_of_le_of_lt Nat.and_le_right (by decide)
 refine ⟨(BitVec.ofInt 64 O &&& BitVec.ofInt 64 3).toNat, h, ?_⟩
 have e : bits .and .i64 O 3 = IntKind.i64.wrap ((BitVec.ofInt 64 O &&& BitVec.ofInt 64 3).toNat : Int) := rfl
 rw [e]
 generalize (BitVec.ofInt 64 O &&& BitVec.ofInt 64 3).toNat = m at h
 have h2 : m = 0 ∨ m = 1 ∨ m = 2 ∨ m = 3 := by omega
 rcases h2 with rfl | rfl | rfl | rfl <;> rfl
theorem sdg_size (x : Rat) : plc x.den < (sdg x).size := by
 unfold sdg
 split
 · rename_i h
   have h1 : (⟨(List.replicate (plc x.den + 1 - (dg (sct x)).size) (48 : UInt8)).toArray⟩ : ByteArray).size = plc x.den + 1 - (dg (sct x)).size := by
    show (List.replicate (plc x.den + 1 - (dg (sct x)).size) (48 : UInt8)).toArray.size = _
    simp
   rw [ByteArray.size_append, h1]
   omega
 · omega
theorem ltx_pos (x : Rat) : 0 < (ltx x).size := by
 have h := sdg_size x
 have h1 : 0 < ((sdg x).extract 0 ((sdg x).size - plc x.den)).size := by rw [ByteArray.size_extract]; omega
 have h2 : 0 < (ubt x).size := by
  unfold ubt
  split
  · rw [ByteArray.size_append]; omega
  · exact h1
 unfold ltx
 split
 · rw [ByteArray.size_append]; omega
 · exact h2
set_option maxRecDepth 100000 in
set_option maxHeartbeats 8000000 in
theorem decFinite.good (N t f : Nat) (O : Int) (w : World) (htab : Tab w) (htb : TabB w) (hN : N < 18446744073709551616) (hN0 : N ≠ 0) (ht : t ≤ 60) (hf : f ≤ 60) (hO1 : -9223372036854775808 ≤ O) (hO2 : O ≤ 9223372036854775807) :
 Calls Tryz.prog 6 #[.int .u64 (N : Int), .int .i64 (t : Int), .int .i64 (f : Int), .int .i64 O] w fun e w' => e = .returned (.bool true) ∧ Below w.heap.size w w' := by
 have HAl := Lib.hid (alive_d w htab htb)
 have HO2 : Hid (∀ W, Calls Tryz.prog 28 #[.int .u64 2] W (GaveV 2 W)) := Lib.hid (fun W => ofV 2 (by decide) W)
 have HO5 : Hid (∀ W, Calls Tryz.prog 28 #[.int .u64 5] W (GaveV 5 W)) := Lib.hid (fun W => ofV 5 (by decide) W)
 have HP2 : Hid (∀ W v, IsN W v 2 → Calls Tryz.prog 27 #[v, .int .i64 (t : Int)] W (PowIs (2 ^ t) W)) := Lib.hid (fun W v h => pow_big 2 t v W _ h (by decide) (by decide) (by omega) rfl)
 have HP5 : Hid (∀ W v, IsN W v 5 → Calls Tryz.prog 27 #[v, .int .i64 (f : Int)] W (PowIs (5 ^ f) W)) := Lib.hid (fun W v h => pow_big 5 f v W _ h (by decide) (by decide) (by omega) rfl)
 have H2s : Hid (2 ^ t < 18446744073709551616 ^ 1) := Lib.hid (Nat.lt_of_le_of_lt (Nat.pow_le_pow_right (by decide) ht) (by decide))
 have H5s : Hid (5 ^ f < 18446744073709551616 ^ 3) := Lib.hid (Nat.lt_of_le_of_lt (Nat.pow_le_pow_right (by decide) hf) (by decide))
 have hNb : ((N : Int) == 0) = false := by simpa using hN0
 have HAnd := Lib.hid (and_three O hO1 hO2)
 have HTB : Hid (∀ W, Below w.heap.size w W → TabB W) := Lib.hid (fun W hB => htb.below hB (Nat.le_refl _))
 have HTA : Hid (∀ W, Below w.heap.size w W → Tab W) := Lib.hid (fun W hB => htab.below hB (Nat.le_refl _))
 have HNl := Lib.hid hN; have HN0 := Lib.hid hN0
 obtain ⟨T2, hT2⟩ : ∃ T, 2 ^ t = T := ⟨_, rfl⟩
 obtain ⟨T5, hT5⟩ : ∃ T, 5 ^ f = T := ⟨_, rfl⟩
 rw [hT2] at HP2 H2s; rw [hT5] at HP5 H5s
 have HT2 := Lib.hid hT2; have HT5 := Lib.hid hT5
 clear htab htb hN hN0 hT2 hT5 hO1 hO2
 go_enter Tryz.func6, Tryz.ntmps6
 go_wp2_with fail
 refine HAl.out.mono ?_
 rintro e w1 ⟨rfl, hb⟩
 have V1 := (Mq.refl w).below hb
 clear hb HAl
 go_wp2_with fail
 refine (HO2.out _).mono ?_
 rintro e w2 ⟨x2, y2, z2, rfl, i2, hb⟩
 have V2 := V1.below hb
 clear V1 hb
 go_wp2_with fail
 refine (HP2.out _ _ i2).mono ?_
 rintro e w3 ⟨x3, y3, z3, rfl, i3, hb⟩
 have V3 := ((V2.below hb).cons i3 (dw_up H2s.out (by omega))).alloc 25 #[.slice x3 y3 z3]
 clear V2 hb i2 i3 HP2 HO2
 go_wp2_with fail
 refine (HO5.out _).mono ?_
 rintro e w4 ⟨x4, y4, z4, rfl, i4, hb⟩
 have V4 := V3.below hb
 clear V3 hb
 go_wp2_with fail
 refine (HP5.out _ _ i4).mono ?_
 rintro e w5 ⟨x5, y5, z5, rfl, i5, hb⟩
 have V5 := ((V4.below hb).cons i5 (dw_up H5s.out (by omega))).alloc 25 #[.slice x5 y5 z5]
 obtain ⟨W5, hW5⟩ : ∃ W5, w5.alloc (.cells #[.slice x5 y5 z5] 25) = W5 := ⟨_, rfl⟩
 rw [hW5] at V5
 obtain ⟨b3, hb3⟩ : ∃ b, w3.heap.size = b := ⟨_, rfl⟩
 obtain ⟨b5, hb5⟩ : ∃ b, w5.heap.size = b := ⟨_, rfl⟩
 rw [hb3, hb5] at V5
 have HW5 := Lib.hid hW5; have Hb3 := Lib.hid hb3; have Hb5 := Lib.hid hb5
 have HV5 := Lib.hid V5
 clear V4 V5 hb i4 i5 HP5 HO5 hW5 hb3 hb5
 go_upto_region 5 with fail
 simp only [HW5.out, Hb3.out, Hb5.out]
 go_cut [13] (fun k wc => ∃ KN : Nat, k = .int .u64 (KN : Int) ∧ (KN = 1 ∨ KN = 3 ∨ KN = 7 ∨ KN = 11) ∧ Hid (Below W5.heap.size W5 wc))
 case first =>
  obtain ⟨j, hj4, hj⟩ := HAnd.out
  have HB : Hid (Below W5.heap.size W5 (W5.alloc (.cells #[.int .u64 1, .int .u64 3, .int .u64 7, .int .u64 11] 53))) := Lib.hid (below_lit W5 _)
  obtain rfl | rfl | rfl | rfl : j = 0 ∨ j = 1 ∨ j = 2 ∨ j = 3 := by omega
  · go_wp2_with fail
    go_meet
    exact ⟨1, rfl, by omega, HB⟩
  · go_wp2_with fail
    go_meet
    exact ⟨3, rfl, by omega, HB⟩
  · go_wp2_with fail
    go_meet
    exact ⟨7, rfl, by omega, HB⟩
  · go_wp2_with fail
    go_meet
    exact ⟨11, rfl, by omega, HB⟩
 case rest =>
  obtain ⟨KN, rfl, hKN, hBc⟩ := hcut
  have V6 := HV5.out.below hBc.out
  clear HV5 hBc
  have hKN1 : 0 < KN ∧ KN ≤ 11 := by omega
  obtain ⟨PB, hPB⟩ : ∃ P, bits .and .u64 (N : Int) 1 = P := ⟨_, rfl⟩
  obtain ⟨odd, hodd⟩ : ∃ b, (PB == 1) = b := ⟨_, rfl⟩
  have HOn : Hid (∀ W, Calls Tryz.prog 28 #[.int .u64 (N : Int)] W (GaveV N W)) := Lib.hid (fun W => ofV N HNl.out W)
  have HOk : Hid (∀ W, Calls Tryz.prog 28 #[.int .u64 (KN : Int)] W (GaveV KN W)) := Lib.hid (fun W => ofV KN (by omega) W)
  have hTF4 : T2 * T5 < 18446744073709551616 ^ 4 := dw_mul (j := 1) (k := 3) H2s.out H5s.out
  have HMa : Hid (∀ W va vb, IsN W va T2 → IsN W vb T5 → Calls Tryz.prog 30 #[va, vb] W (GaveV (T2 * T5) W)) := Lib.hid (fun W va vb h1 h2 => (mul_any _ _ va vb W h1 h2 (dw_up (k := 5000) H2s.out (by omega)) (dw_up (k := 5000) H5s.out (by omega))).mono fun e w' h' => gaveV h')
  have hK1w : KN < 18446744073709551616 ^ 1 := Nat.lt_of_le_of_lt hKN1.2 (by decide)
  have hN1w : N < 18446744073709551616 ^ 1 := by rw [Nat.pow_one]; exact HNl.out
  obtain ⟨TF, hTF⟩ : ∃ M, T2 * T5 = M := ⟨_, rfl⟩
  rw [hTF] at HMa hTF4
  have hD5 : TF * KN < 18446744073709551616 ^ 5 := dw_mul (j := 4) (k := 1) hTF4 hK1w
  have HMb : Hid (∀ W va vb, IsN W va TF → IsN W vb KN → Calls Tryz.prog 30 #[va, vb] W (GaveV (TF * KN) W)) := Lib.hid (fun W va vb h1 h2 => (mul_any _ _ va vb W h1 h2 (dw_up (k := 5000) hTF4 (by omega)) (dw_up (k := 5000) hK1w (by omega))).mono fun e w' h' => gaveV h')
  have HDv : Hid (∀ W va vb, IsN W va N → IsN W vb KN → Calls Tryz.prog 31 #[va, vb] W fun e w' => ∃ x y z x' y' z', e = .returned (.tuple #[.agg #[.slice x y z], .agg #[.slice x' y' z'], .bool true]) ∧ IsN w' (.agg #[.slice x y z]) (N / KN) ∧ IsN w' (.agg #[.slice x' y' z']) (N % KN) ∧ Below W.heap.size W w') := Lib.hid (fun W va vb h1 h2 => dvm_tr N KN va vb W h1 h2 (dw_up (k := 8000) hN1w (by omega)) hKN1.1)
  have hD0 : 0 < TF * KN := by
   refine Nat.mul_pos ?_ hKN1.1
   rw [← hTF, ← HT2.out, ← HT5.out]
   exact Nat.mul_pos (Nat.pow_pos (by decide)) (Nat.pow_pos (by decide))
  obtain ⟨D, hD⟩ : ∃ M, TF * KN = M := ⟨_, rfl⟩
  rw [hD] at HMb hD5 hD0
  have HMk : Hid (∀ W va vb, Below w.heap.size w W → IsN W va N → IsN W vb D → Calls Tryz.prog 29 #[.bool odd, va, vb] W fun e w' => ∃ v, e = .returned (.tuple #[v, .int .i64 0]) ∧ IsR w' v (mkRat (sgn odd N) D) ∧ Below W.heap.size W w') := Lib.hid (fun W va vb hB h1 h2 => make_mk odd N D va vb W h1 h2 (dw_up hN1w (by omega)) (dw_up hD5 (by omega)) hD0 (HTB.out W hB))
  obtain ⟨p1, p2, p3⟩ := norm_parts (sgn odd N) D (by omega)
  rw [sgn_abs] at p1 p2
  obtain ⟨X, hXq⟩ : ∃ X, mkRat (sgn odd N) D = X := ⟨_, rfl⟩
  rw [hXq] at HMk p1 p2
  have hX35 : Sz 35 X := ⟨by rw [p1]; exact Nat.lt_of_le_of_lt (Nat.div_le_self _ _) (dw_up hN1w (by omega)), by rw [p2]; exact Nat.lt_of_le_of_lt (Nat.div_le_self _ _) (dw_up hD5 (by omega))⟩
  have HX35 := Lib.hid hX35
  have hDt : D = 2 ^ t * 5 ^ f * KN := by rw [← hD, ← hTF, ← HT2.out, ← HT5.out]
  have HYes : Hid (KN ∣ N → rst X.den = 1 ∧ plc X.den ≤ max t f) := Lib.hid (fun h => by
   rw [p2]
   obtain ⟨q1, q2, q3⟩ := fin_parts (fin_yes HN0.out hDt h)
   exact ⟨q1, by unfold plc; omega⟩)
  have HNo : Hid (¬ KN ∣ N → rst X.den ≠ 1) := Lib.hid (fun h => by
   rw [p2]
   have hdd : KN ∣ D := ⟨2 ^ t * 5 ^ f, by rw [hDt, Nat.mul_comm]⟩
   have hn0 : D / Nat.gcd N D ≠ 0 := fun e => by
    have h9 := X.den_nz
    rw [p2] at h9
    exact h9 e
   rcases hKN with rfl | rfl | rfl | rfl
   · exact absurd (Nat.one_dvd _) h
   · exact fin_not hn0 (by decide) (by decide) (by decide) (fin_no HN0.out (fun a b => prime_of (by decide) (by decide) a b) hdd h)
   · exact fin_not hn0 (by decide) (by decide) (by decide) (fin_no HN0.out (fun a b => prime_of (by decide) (by decide) a b) hdd h)
   · exact fin_not hn0 (by decide) (by decide) (by decide) (fin_no HN0.out (fun a b => prime_of (by decide) (by decide) a b) hdd h))
  have HN100 := Lib.hid (dw_up (k := 100) hN1w (by omega))
  have HR100 : Hid (N % KN < 18446744073709551616 ^ 100) := Lib.hid (Nat.lt_of_le_of_lt (Nat.mod_le _ _) HN100.out)
  clear p1 p2 p3 hTF4 hK1w hN1w hD5 hD0 hD hTF hXq hX35 hDt hKN
  go_wp2_with fail
  refine wp_region_inv 18 (fun a0 dj a W => ∃ vq0 vq1 vq2 vq3 vq4 vq5 vq6 vq7 vq8 vq9 vq10 vq11 vq12 vq13 vq14 vq15 vq17 : Value, a = puts a0 [(68, vq0), (69, vq1), (70, vq2), (71, vq3), (72, vq4), (73, vq5), (74, vq6), (75, vq7), (76, vq8), (77, vq9), (78, vq10), (79, vq11), (67, vq12), (80, vq13), (81, vq14), (14, vq15), (15, vq17)] ∧ Below wc.heap.size wc W ∧ (dj 0 = true → vq0 = .int .u64 (N : Int)) ∧ (dj 1 = true → vq1 = .int .u64 PB) ∧ (dj 2 = true → vq2 = .bool odd) ∧ (dj 3 = true → vq3 = .int .u64 (N : Int)) ∧ (dj 4 = true → Nm W vq4 (N)) ∧ (dj 5 = true → vq5 = .agg #[.slice x3 y3 z3]) ∧ (dj 6 = true → vq6 = .agg #[.slice x5 y5 z5]) ∧ (dj 7 = true → Nm W vq7 (TF)) ∧ (dj 8 = true → vq8 = .int .u64 (KN : Int)) ∧ (dj 9 = true → Nm W vq9 (KN)) ∧ (dj 10 = true → Nm W vq10 (D)) ∧ (dj 11 = true → Rp W vq11 (X)) ∧ (dj 12 = true → Rp W vq12 (X)) ∧ (dj 13 = true → IsR W vq13 (X)) ∧ (dj 14 = true → vq14 = .int .i64 0) ∧ (dj 15 = true → dj 16 = false → Rn wc W vq15) ∧ (dj 16 = true → Rs wc W vq15 (X)) ∧ (dj 17 = true → vq17 = .int .i64 0)) (by kernel_rfl) (by kernel_rfl) (by kernel_rfl) ?_ ?_ ?_ ?_
  · intro dj hcl i hi1 hi2 hd j hj
    exact absurd (Nat.lt_of_lt_of_le hi2 (of_decide_eq_true (by kernel_rfl))) (Nat.not_lt.2 hi1)
  · refine ⟨u68, u69, u70, u71, u72, u73, u74, u75, u76, u77, u78, u79, u67, u80, u81, undef, undef, (by simp only [pus]), (Below.refl _ _).drew, (fun h => by cases h), (fun h => by cases h), (fun h => by cases h), (fun h => by cases h), (fun h => by cases h), (fun h => by cases h), (fun h => by cases h), (fun h => by cases h), (fun h => by cases h), (fun h => by cases h), (fun h => by cases h), (fun h => by cases h), (fun h => by cases h), (fun h => by cases h), (fun h => by cases h), (fun h => by cases h), (fun h => by cases h), (fun h => by cases h)⟩
  · intro dj a W i hi hdi hcl hdep hI K hK
    obtain ⟨vq0, vq1, vq2, vq3, vq4, vq5, vq6, vq7, vq8, vq9, vq10, vq11, vq12, vq13, vq14, vq15, vq17, rfl, hB, p0, p1, p2, p3, p4, p5, p6, p7, p8, p9, p10, p11, p12, p13, p14, p15, p16, p17⟩ := hI
    have V := V6.below hB
    obtain rfl | rfl | rfl | rfl | rfl | rfl | rfl | rfl | rfl | rfl | rfl | rfl | rfl | rfl | rfl | rfl | rfl | rfl : i = 0 ∨ i = 1 ∨ i = 2 ∨ i = 3 ∨ i = 4 ∨ i = 5 ∨ i = 6 ∨ i = 7 ∨ i = 8 ∨ i = 9 ∨ i = 10 ∨ i = 11 ∨ i = 12 ∨ i = 13 ∨ i = 14 ∨ i = 15 ∨ i = 16 ∨ i = 17 := by omega
    · simp only [pus]
      refine any_op (o := _) rfl rfl ?_
      go_wp2_with fail
      refine hK.out _ _ ?_
      exact ⟨.int .u64 (N : Int), vq1, vq2, vq3, vq4, vq5, vq6, vq7, vq8, vq9, vq10, vq11, vq12, vq13, vq14, vq15, vq17, (by simp only [pus]), hB, (fun _ => rfl), p1, p2, p3, p4, p5, p6, p7, p8, p9, p10, p11, p12, p13, p14, p15, p16, p17⟩
    · obtain rfl := p0 (hdep 0 (by kernel_rfl))
      simp only [pus]
      refine any_op (o := _) rfl rfl ?_
      go_wp2_with fail
      refine hK.out _ _ ?_
      exact ⟨.int .u64 (N : Int), .int .u64 PB, vq2, vq3, vq4, vq5, vq6, vq7, vq8, vq9, vq10, vq11, vq12, vq13, vq14, vq15, vq17, (by simp only [pus]), hB, (fun _ => rfl), (fun _ => rfl), p2, p3, p4, p5, p6, p7, p8, p9, p10, p11, p12, p13, p14, p15, p16, p17⟩
    · obtain rfl := p1 (hdep 1 (by kernel_rfl))
      simp only [pus]
      refine any_op (o := _) rfl rfl ?_
      go_wp2_with fail
      refine hK.out _ _ ?_
      exact ⟨vq0, .int .u64 PB, .bool odd, vq3, vq4, vq5, vq6, vq7, vq8, vq9, vq10, vq11, vq12, vq13, vq14, vq15, vq17, (by simp only [pus]), hB, p0, (fun _ => rfl), (fun _ => rfl), p3, p4, p5, p6, p7, p8, p9, p10, p11, p12, p13, p14, p15, p16, p17⟩
    · simp only [pus]
      refine any_op (o := _) rfl rfl ?_
      go_wp2_with fail
      refine hK.out _ _ ?_
      exact ⟨vq0, vq1, vq2, .int .u64 (N : Int), vq4, vq5, vq6, vq7, vq8, vq9, vq10, vq11, vq12, vq13, vq14, vq15, vq17, (by simp only [pus]), hB, p0, p1, p2, (fun _ => rfl), p4, p5, p6, p7, p8, p9, p10, p11, p12, p13, p14, p15, p16, p17⟩
    · obtain rfl := p3 (hdep 3 (by kernel_rfl))
      simp only [pus]
      refine any_op (o := _) rfl rfl ?_
      have hC := Lib.hid (HOn.out W)
      go_simp
      refine hC.out.mono ?_
      rintro e W2 ⟨x, y, z, rfl, hn, hb⟩
      refine hK.out _ _ ?_
      exact ⟨vq0, vq1, vq2, .int .u64 (N : Int), .agg #[.slice x y z], vq5, vq6, vq7, vq8, vq9, vq10, vq11, vq12, vq13, vq14, vq15, vq17, (by simp only [pus]), hB.trans (hb.mono hB.size), p0, p1, p2, (fun _ => rfl), (fun _ => ⟨⟨x, y, z, rfl⟩, hn⟩), p5, p6, (fun h => (p7 h).below hb), p8, (fun h => (p9 h).below hb), (fun h => (p10 h).below hb), (fun h => (p11 h).below hb), (fun h => (p12 h).below hb), (fun h => (p13 h).below hb (Nat.le_refl _)), p14, (fun h h2 => (p15 h h2).below hb), (fun h => (p16 h).below hb), p17⟩
    · simp only [pus]
      have c0 := V.n0 1 rfl
      refine any_op (o := _) rfl rfl ?_
      go_wp2_with fail
      refine hK.out _ _ ?_
      exact ⟨vq0, vq1, vq2, vq3, vq4, .agg #[.slice x3 y3 z3], vq6, vq7, vq8, vq9, vq10, vq11, vq12, vq13, vq14, vq15, vq17, (by simp only [pus]), hB, p0, p1, p2, p3, p4, (fun _ => rfl), p6, p7, p8, p9, p10, p11, p12, p13, p14, p15, p16, p17⟩
    · simp only [pus]
      have c0 := V.n0 0 rfl
      refine any_op (o := _) rfl rfl ?_
      go_wp2_with fail
      refine hK.out _ _ ?_
      exact ⟨vq0, vq1, vq2, vq3, vq4, vq5, .agg #[.slice x5 y5 z5], vq7, vq8, vq9, vq10, vq11, vq12, vq13, vq14, vq15, vq17, (by simp only [pus]), hB, p0, p1, p2, p3, p4, p5, (fun _ => rfl), p7, p8, p9, p10, p11, p12, p13, p14, p15, p16, p17⟩
    · have k4 := p4 (hdep 4 (by kernel_rfl))
      obtain ⟨⟨x4, y4, z4, rfl⟩, n4⟩ := k4
      obtain rfl := p5 (hdep 5 (by kernel_rfl))
      obtain rfl := p6 (hdep 6 (by kernel_rfl))
      simp only [pus]
      refine any_op (o := _) rfl rfl ?_
      have hC := Lib.hid (HMa.out W _ _ (V.num 1 _ _ rfl).1 (V.num 0 _ _ rfl).1)
      go_simp
      refine hC.out.mono ?_
      rintro e W2 ⟨x, y, z, rfl, hn, hb⟩
      refine hK.out _ _ ?_
      exact ⟨vq0, vq1, vq2, vq3, .agg #[.slice x4 y4 z4], .agg #[.slice x3 y3 z3], .agg #[.slice x5 y5 z5], .agg #[.slice x y z], vq8, vq9, vq10, vq11, vq12, vq13, vq14, vq15, vq17, (by simp only [pus]), hB.trans (hb.mono hB.size), p0, p1, p2, p3, (fun _ => (show Nm _ _ _ from ⟨⟨x4, y4, z4, rfl⟩, n4⟩).below hb), (fun _ => rfl), (fun _ => rfl), (fun _ => ⟨⟨x, y, z, rfl⟩, hn⟩), p8, (fun h => (p9 h).below hb), (fun h => (p10 h).below hb), (fun h => (p11 h).below hb), (fun h => (p12 h).below hb), (fun h => (p13 h).below hb (Nat.le_refl _)), p14, (fun h h2 => (p15 h h2).below hb), (fun h => (p16 h).below hb), p17⟩
    · simp only [pus]
      refine any_op (o := _) rfl rfl ?_
      go_wp2_with fail
      refine hK.out _ _ ?_
      exact ⟨vq0, vq1, vq2, vq3, vq4, vq5, vq6, vq7, .int .u64 (KN : Int), vq9, vq10, vq11, vq12, vq13, vq14, vq15, vq17, (by simp only [pus]), hB, p0, p1, p2, p3, p4, p5, p6, p7, (fun _ => rfl), p9, p10, p11, p12, p13, p14, p15, p16, p17⟩
    · have k7 := p7 (hdep 7 (by kernel_rfl))
      obtain ⟨⟨x7, y7, z7, rfl⟩, n7⟩ := k7
      obtain rfl := p8 (hdep 8 (by kernel_rfl))
      simp only [pus]
      refine any_op (o := _) rfl rfl ?_
      have hC := Lib.hid (HOk.out W)
      go_simp
      refine hC.out.mono ?_
      rintro e W2 ⟨x, y, z, rfl, hn, hb⟩
      refine hK.out _ _ ?_
      exact ⟨vq0, vq1, vq2, vq3, vq4, vq5, vq6, .agg #[.slice x7 y7 z7], .int .u64 (KN : Int), .agg #[.slice x y z], vq10, vq11, vq12, vq13, vq14, vq15, vq17, (by simp only [pus]), hB.trans (hb.mono hB.size), p0, p1, p2, p3, (fun h => (p4 h).below hb), p5, p6, (fun _ => (show Nm _ _ _ from ⟨⟨x7, y7, z7, rfl⟩, n7⟩).below hb), (fun _ => rfl), (fun _ => ⟨⟨x, y, z, rfl⟩, hn⟩), (fun h => (p10 h).below hb), (fun h => (p11 h).below hb), (fun h => (p12 h).below hb), (fun h => (p13 h).below hb (Nat.le_refl _)), p14, (fun h h2 => (p15 h h2).below hb), (fun h => (p16 h).below hb), p17⟩
    · have k7 := p7 (hdep 7 (by kernel_rfl))
      obtain ⟨⟨x7, y7, z7, rfl⟩, n7⟩ := k7
      have k9 := p9 (hdep 9 (by kernel_rfl))
      obtain ⟨⟨x9, y9, z9, rfl⟩, n9⟩ := k9
      simp only [pus]
      refine any_op (o := _) rfl rfl ?_
      have hC := Lib.hid (HMb.out W _ _ n7 n9)
      go_simp
      refine hC.out.mono ?_
      rintro e W2 ⟨x, y, z, rfl, hn, hb⟩
      refine hK.out _ _ ?_
      exact ⟨vq0, vq1, vq2, vq3, vq4, vq5, vq6, .agg #[.slice x7 y7 z7], vq8, .agg #[.slice x9 y9 z9], .agg #[.slice x y z], vq11, vq12, vq13, vq14, vq15, vq17, (by simp only [pus]), hB.trans (hb.mono hB.size), p0, p1, p2, p3, (fun h => (p4 h).below hb), p5, p6, (fun _ => (show Nm _ _ _ from ⟨⟨x7, y7, z7, rfl⟩, n7⟩).below hb), p8, (fun _ => (show Nm _ _ _ from ⟨⟨x9, y9, z9, rfl⟩, n9⟩).below hb), (fun _ => ⟨⟨x, y, z, rfl⟩, hn⟩), (fun h => (p11 h).below hb), (fun h => (p12 h).below hb), (fun h => (p13 h).below hb (Nat.le_refl _)), p14, (fun h h2 => (p15 h h2).below hb), (fun h => (p16 h).below hb), p17⟩
    · obtain rfl := p2 (hdep 2 (by kernel_rfl))
      have k4 := p4 (hdep 4 (by kernel_rfl))
      obtain ⟨⟨x4, y4, z4, rfl⟩, n4⟩ := k4
      have k10 := p10 (hdep 10 (by kernel_rfl))
      obtain ⟨⟨x10, y10, z10, rfl⟩, n10⟩ := k10
      simp only [pus]
      refine any_op (o := _) rfl rfl ?_
      have hC := Lib.hid (HMk.out W _ _ V.bel n4 n10)
      go_simp
      refine hC.out.mono ?_
      rintro e W2 ⟨u, rfl, hn, hb⟩
      refine hK.out _ _ ?_
      exact ⟨vq0, vq1, .bool odd, vq3, .agg #[.slice x4 y4 z4], vq5, vq6, vq7, vq8, vq9, .agg #[.slice x10 y10 z10], .tuple #[u, .int .i64 0], vq12, vq13, vq14, vq15, vq17, (by simp only [pus]), hB.trans (hb.mono hB.size), p0, p1, (fun _ => rfl), p3, (fun _ => (show Nm _ _ _ from ⟨⟨x4, y4, z4, rfl⟩, n4⟩).below hb), p5, p6, (fun h => (p7 h).below hb), p8, (fun h => (p9 h).below hb), (fun _ => (show Nm _ _ _ from ⟨⟨x10, y10, z10, rfl⟩, n10⟩).below hb), (fun _ => ⟨u, rfl, hn⟩), (fun h => (p12 h).below hb), (fun h => (p13 h).below hb (Nat.le_refl _)), p14, (fun h h2 => (p15 h h2).below hb), (fun h => (p16 h).below hb), p17⟩
    · have k11 := p11 (hdep 11 (by kernel_rfl))
      obtain ⟨u11, rfl, n11⟩ := k11
      simp only [pus]
      refine any_op (o := _) rfl rfl ?_
      go_wp2_with fail
      refine hK.out _ _ ?_
      exact ⟨vq0, vq1, vq2, vq3, vq4, vq5, vq6, vq7, vq8, vq9, vq10, .tuple #[u11, .int .i64 0], .tuple #[u11, .int .i64 0], vq13, vq14, vq15, vq17, (by simp only [pus]), hB, p0, p1, p2, p3, p4, p5, p6, p7, p8, p9, p10, (fun _ => ⟨u11, rfl, n11⟩), (fun _ => ⟨u11, rfl, n11⟩), p13, p14, p15, p16, p17⟩
    · have k12 := p12 (hdep 12 (by kernel_rfl))
      obtain ⟨u12, rfl, n12⟩ := k12
      simp only [pus]
      refine any_op (o := _) rfl rfl ?_
      go_wp2_with fail
      refine hK.out _ _ ?_
      exact ⟨vq0, vq1, vq2, vq3, vq4, vq5, vq6, vq7, vq8, vq9, vq10, vq11, .tuple #[u12, .int .i64 0], u12, vq14, vq15, vq17, (by simp only [pus]), hB, p0, p1, p2, p3, p4, p5, p6, p7, p8, p9, p10, p11, (fun _ => ⟨u12, rfl, n12⟩), (fun _ => n12), p14, p15, (fun h => absurd (hcl 16 13 (by kernel_rfl) h) (by rw [hdi]; simp)), p17⟩
    · have k12 := p12 (hdep 12 (by kernel_rfl))
      obtain ⟨u12, rfl, n12⟩ := k12
      simp only [pus]
      refine any_op (o := _) rfl rfl ?_
      go_wp2_with fail
      refine hK.out _ _ ?_
      exact ⟨vq0, vq1, vq2, vq3, vq4, vq5, vq6, vq7, vq8, vq9, vq10, vq11, .tuple #[u12, .int .i64 0], vq13, .int .i64 0, vq15, vq17, (by simp only [pus]), hB, p0, p1, p2, p3, p4, p5, p6, p7, p8, p9, p10, p11, (fun _ => ⟨u12, rfl, n12⟩), p13, (fun _ => rfl), p15, p16, p17⟩
    · simp only [pus]
      refine any_op (o := _) rfl rfl ?_
      have hb := below_lit W (.cells #[.bool false, .slice none 0 0, .slice none 0 0] 27)
      have hnb : Rn wc (W.alloc (.cells #[.bool false, .slice none 0 0, .slice none 0 0] 27)) (.pointer (some ⟨W.heap.size, 0, none⟩)) := ⟨_, rfl, Blk.new W _ _, hB.size⟩
      go_wp2_with fail
      refine hK.out _ _ ?_
      exact ⟨vq0, vq1, vq2, vq3, vq4, vq5, vq6, vq7, vq8, vq9, vq10, vq11, vq12, vq13, vq14, .pointer (some ⟨W.heap.size, 0, none⟩), vq17, (by simp only [pus]), hB.trans (hb.mono hB.size), p0, p1, p2, p3, (fun h => (p4 h).below hb), p5, p6, (fun h => (p7 h).below hb), p8, (fun h => (p9 h).below hb), (fun h => (p10 h).below hb), (fun h => (p11 h).below hb), (fun h => (p12 h).below hb), (fun h => (p13 h).below hb (Nat.le_refl _)), p14, (fun _ _ => hnb), (fun h => absurd (hcl 16 15 (by kernel_rfl) h) (by rw [hdi]; simp)), p17⟩
    · obtain ⟨b, rfl, hk, hl⟩ := p15 (hdep 15 (by kernel_rfl)) hdi
      have hR0 := p13 (hdep 13 (by kernel_rfl))
      have hR1 := hR0
      obtain ⟨e1, e2, e3, e4, e5, e6, rfl, -, -⟩ := hR1
      obtain ⟨zx, hzx⟩ : ∃ zx, decide ((X).num < 0) = zx := ⟨_, rfl⟩
      rw [hzx] at hR0 ⊢
      clear hzx
      simp only [pus]
      have c0 := hk.cell 0; have c1 := hk.cell 1; have c2 := hk.cell 2; have f0 := hk.frozen 0; have f1 := hk.frozen 1; have f2 := hk.frozen 2
      simp only [List.getElem?_toArray, List.getElem?_cons_zero, List.getElem?_cons_succ] at c0 c1 c2
      refine any_op (o := _) rfl rfl ?_
      go_wp2_with fail
      refine hK.out _ _ ?_
      exact ⟨vq0, vq1, vq2, vq3, vq4, vq5, vq6, vq7, vq8, vq9, vq10, vq11, vq12, .agg #[.bool zx, .slice e1 e2 e3, .slice e4 e5 e6], vq14, .pointer (some ⟨b, 0, none⟩), vq17, (by simp only [pus]), (below_set3 hB hl _ _ _), p0, p1, p2, p3, (fun h => (p4 h).s3 hk), p5, p6, (fun h => (p7 h).s3 hk), p8, (fun h => (p9 h).s3 hk), (fun h => (p10 h).s3 hk), (fun h => (p11 h).s3 hk), (fun h => (p12 h).s3 hk), (fun _ => isR_s3 hR0 hk _ _ _), p14, (fun _ h => by rw [upd_self] at h; cases h), (fun _ => ⟨b, zx, e1, e2, e3, e4, e5, e6, rfl, blk_set3 hk _ _ _, isR_s3 hR0 hk _ _ _, hl⟩), p17⟩
    · obtain rfl := p0 (hdep 0 (by kernel_rfl))
      obtain rfl := p1 (hdep 1 (by kernel_rfl))
      obtain rfl := p2 (hdep 2 (by kernel_rfl))
      obtain rfl := p3 (hdep 3 (by kernel_rfl))
      have k4 := p4 (hdep 4 (by kernel_rfl))
      obtain ⟨⟨x4, y4, z4, rfl⟩, n4⟩ := k4
      obtain rfl := p5 (hdep 5 (by kernel_rfl))
      obtain rfl := p6 (hdep 6 (by kernel_rfl))
      have k7 := p7 (hdep 7 (by kernel_rfl))
      obtain ⟨⟨x7, y7, z7, rfl⟩, n7⟩ := k7
      obtain rfl := p8 (hdep 8 (by kernel_rfl))
      have k9 := p9 (hdep 9 (by kernel_rfl))
      obtain ⟨⟨x9, y9, z9, rfl⟩, n9⟩ := k9
      have k10 := p10 (hdep 10 (by kernel_rfl))
      obtain ⟨⟨x10, y10, z10, rfl⟩, n10⟩ := k10
      have k11 := p11 (hdep 11 (by kernel_rfl))
      obtain ⟨u11, rfl, n11⟩ := k11
      have k12 := p12 (hdep 12 (by kernel_rfl))
      obtain ⟨u12, rfl, n12⟩ := k12
      have n13 := p13 (hdep 13 (by kernel_rfl))
      obtain rfl := p14 (hdep 14 (by kernel_rfl))
      simp only [pus]
      refine any_op (o := _) rfl rfl ?_
      go_wp2_with fail
      refine hK.out _ _ ?_
      exact ⟨.int .u64 (N : Int), .int .u64 PB, .bool odd, .int .u64 (N : Int), .agg #[.slice x4 y4 z4], .agg #[.slice x3 y3 z3], .agg #[.slice x5 y5 z5], .agg #[.slice x7 y7 z7], .int .u64 (KN : Int), .agg #[.slice x9 y9 z9], .agg #[.slice x10 y10 z10], .tuple #[u11, .int .i64 0], .tuple #[u12, .int .i64 0], vq13, .int .i64 0, vq15, .int .i64 0, (by simp only [pus]), hB, (fun _ => rfl), (fun _ => rfl), (fun _ => rfl), (fun _ => rfl), (fun _ => ⟨⟨x4, y4, z4, rfl⟩, n4⟩), (fun _ => rfl), (fun _ => rfl), (fun _ => ⟨⟨x7, y7, z7, rfl⟩, n7⟩), (fun _ => rfl), (fun _ => ⟨⟨x9, y9, z9, rfl⟩, n9⟩), (fun _ => ⟨⟨x10, y10, z10, rfl⟩, n10⟩), (fun _ => ⟨u11, rfl, n11⟩), (fun _ => ⟨u12, rfl, n12⟩), (fun _ => n13), (fun _ => rfl), p15, p16, (fun _ => rfl)⟩
  · intro dj a W hd hI
    obtain ⟨vq0, vq1, vq2, vq3, vq4, vq5, vq6, vq7, vq8, vq9, vq10, vq11, vq12, vq13, vq14, vq15, vq17, rfl, hB, p0, p1, p2, p3, p4, p5, p6, p7, p8, p9, p10, p11, p12, p13, p14, p15, p16, p17⟩ := hI
    have V := V6.below hB
    obtain rfl := p0 (hd 0 (by omega))
    obtain rfl := p1 (hd 1 (by omega))
    obtain rfl := p2 (hd 2 (by omega))
    obtain rfl := p3 (hd 3 (by omega))
    obtain ⟨⟨xq4, yq4, zq4, rfl⟩, nq4⟩ := p4 (hd 4 (by omega))
    obtain rfl := p5 (hd 5 (by omega))
    obtain rfl := p6 (hd 6 (by omega))
    obtain ⟨⟨xq7, yq7, zq7, rfl⟩, nq7⟩ := p7 (hd 7 (by omega))
    obtain rfl := p8 (hd 8 (by omega))
    obtain ⟨⟨xq9, yq9, zq9, rfl⟩, nq9⟩ := p9 (hd 9 (by omega))
    obtain ⟨⟨xq10, yq10, zq10, rfl⟩, nq10⟩ := p10 (hd 10 (by omega))
    obtain ⟨uq11, rfl, nq11⟩ := p11 (hd 11 (by omega))
    obtain ⟨uq12, rfl, nq12⟩ := p12 (hd 12 (by omega))
    have nq13 := p13 (hd 13 (by omega))
    obtain rfl := p14 (hd 14 (by omega))
    obtain ⟨bq16, zq16, e1, e2, e3, e4, e5, e6, rfl, kq16, rq16, lq16⟩ := p16 (hd 16 (by omega))
    obtain rfl := p17 (hd 17 (by omega))
    simp only [pus]
    show wpAny Tryz.prog .any _ _ 0 #[true, true, true, true, true, true, true, true, true, true, true, true, true, true, true, true, true, true] _ _
    have V7 := (V.addbox kq16 (Nat.le_trans V6.bel.size lq16)).rcons rq16
    refine ⟨by kernel_rfl, ?_⟩
    clear V V6 nq4 nq7 nq9 nq10 nq11 nq12 nq13 kq16 rq16
    go_wp2_with fail
    refine (HOn.out _).mono ?_
    rintro e w10 ⟨x10, y10, z10, rfl, i10, hb⟩
    have Va := (V7.below hb).cons i10 HN100.out
    clear V7 hb i10
    go_wp2_with fail
    refine (HOk.out _).mono ?_
    rintro e w11 ⟨x11, y11, z11, rfl, i11, hb⟩
    have Vb := Va.below hb
    clear Va hb
    go_wp2_with fail
    refine (HDv.out _ _ _ (Vb.num 0 _ _ rfl).1 i11).mono ?_
    rintro e w12 ⟨xa1, ya1, za1, xb1, yb1, zb1, rfl, iA, iB, hb⟩
    have V1 := ((Vb.below hb).cons iB HR100.out).two 25 25 #[.slice xa1 ya1 za1] #[.slice xb1 yb1 zb1]
    clear Vb hb iA iB i11
    go_wp2_with fail
    refine (HOn.out _).mono ?_
    rintro e w20 ⟨x20, y20, z20, rfl, i20, hb⟩
    have Va := (V1.below hb).cons i20 HN100.out
    clear V1 hb i20
    go_wp2_with fail
    refine (HOk.out _).mono ?_
    rintro e w21 ⟨x21, y21, z21, rfl, i21, hb⟩
    have Vb := Va.below hb
    clear Va hb
    go_wp2_with fail
    refine (HDv.out _ _ _ (Vb.num 0 _ _ rfl).1 i21).mono ?_
    rintro e w22 ⟨xa2, ya2, za2, xb2, yb2, zb2, rfl, iA, iB, hb⟩
    have V2 := ((Vb.below hb).cons iB HR100.out).two 25 25 #[.slice xa2 ya2 za2] #[.slice xb2 yb2 zb2]
    clear Vb hb iA iB i21
    have g20 := V2.n0 0 rfl
    by_cases hk1 : KN = 1
    · have hk1b : ((KN : Int) == 1) = true := by simp; omega
      have hdv : KN ∣ N := by rw [hk1]; exact Nat.one_dvd _
      have Hk1 := Lib.hid hk1
      clear hk1 g20
      obtain ⟨hY1, hY2⟩ := HYes.out hdv
      have HPl : Hid (∀ W v, IsR W v X → Calls Tryz.prog 18 #[v] W fun e w' => e = .returned (.tuple #[.int .i64 (plc X.den : Nat), .bool true]) ∧ Below W.heap.size W w') := Lib.hid (fun W v h => (places_any X v W h (HX35.out.mono (by omega) (k := 100)).2).mono fun e w' h' => by
       obtain ⟨h1, h2⟩ := h'
       rw [if_pos hY1, decide_eq_true hY1] at h1
       exact ⟨h1, h2⟩)
      have HTx : Hid (∀ W v, Below w.heap.size w W → IsR W v X → Calls Tryz.prog 19 #[v] W fun e w' => e = .returned (.tuple #[.string (ltx X), .int .i64 0]) ∧ Below W.heap.size W w') := Lib.hid (fun W v hB h => dtext_some X v W h HX35.out hY1 (by omega) (HTA.out W hB))
      have HFi : Hid (∀ W v, IsR W v X → Calls Tryz.prog 21 #[v] W fun e w' => e = .returned (.bool true) ∧ Below W.heap.size W w') := Lib.hid (fun W v h => by
       have h9 := finite_any X v W h (HX35.out.mono (by omega) (k := 100)).2
       rw [decide_eq_true hY1] at h9
       exact h9)
      obtain ⟨PC, hPC⟩ : ∃ P, plc X.den = P := ⟨_, rfl⟩
      obtain ⟨L, hL⟩ : ∃ L, ltx X = L := ⟨_, rfl⟩
      have hLs := ltx_pos X
      rw [hL] at HTx hLs
      rw [hPC] at HPl hY2
      have hLi : (0 : Int) < (L.size : Int) := by omega
      have hmx : max (t : Int) (f : Int) = ((max t f : Nat) : Int) := by omega
      obtain ⟨MX, hMX⟩ : ∃ M, max t f = M := ⟨_, rfl⟩
      rw [hMX] at hmx hY2
      have hPM : (PC : Int) ≤ (MX : Int) := by omega
      have hLd : decide (0 < L.size) = true := decide_eq_true hLs
      clear hY1 hPC hL hLs hMX hY2 hdv HYes HNo
      have q0 := V2.c0 4 rfl; have q1 := V2.c1 4 rfl; have q2 := V2.c2 4 rfl
      go_wp2_with fail
      refine (HPl.out _ _ (V2.rat 0 _ _ rfl)).mono ?_
      rintro e wp ⟨rfl, hb⟩
      have Vp := V2.below hb
      clear V2 hb q0 q1 q2
      have q0 := Vp.c0 4 rfl; have q1 := Vp.c1 4 rfl; have q2 := Vp.c2 4 rfl
      go_wp2_with fail
      refine (HTx.out _ _ Vp.bel (Vp.rat 0 _ _ rfl)).mono ?_
      rintro e wt ⟨rfl, hb⟩
      have Vt := Vp.below hb
      clear Vp hb q0 q1 q2
      have q0 := Vt.c0 4 rfl; have q1 := Vt.c1 4 rfl; have q2 := Vt.c2 4 rfl
      go_wp2_with fail
      refine (HFi.out _ _ (Vt.rat 0 _ _ rfl)).mono ?_
      rintro e wf ⟨rfl, hb⟩
      have HB := Lib.hid (Vt.below hb).bel
      clear Vt hb q0 q1 q2
      go_wp2_with fail
      go_ret
      exact ⟨rfl, HB.out⟩
    · have hk1b : ((KN : Int) == 1) = false := by simp; omega
      go_wp2_with fail
      refine (zero_any (N % KN) _ _ (V2.num 0 _ _ rfl).1).mono ?_
      rintro e wz ⟨⟨hz, rfl⟩ | ⟨hz, rfl⟩, hb⟩
      · have hdv : KN ∣ N := Nat.dvd_of_mod_eq_zero hz
        have V3 := V2.below hb
        clear V2 hb hz hk1 g20
        obtain ⟨hY1, hY2⟩ := HYes.out hdv
        have HPl : Hid (∀ W v, IsR W v X → Calls Tryz.prog 18 #[v] W fun e w' => e = .returned (.tuple #[.int .i64 (plc X.den : Nat), .bool true]) ∧ Below W.heap.size W w') := Lib.hid (fun W v h => (places_any X v W h (HX35.out.mono (by omega) (k := 100)).2).mono fun e w' h' => by
         obtain ⟨h1, h2⟩ := h'
         rw [if_pos hY1, decide_eq_true hY1] at h1
         exact ⟨h1, h2⟩)
        have HTx : Hid (∀ W v, Below w.heap.size w W → IsR W v X → Calls Tryz.prog 19 #[v] W fun e w' => e = .returned (.tuple #[.string (ltx X), .int .i64 0]) ∧ Below W.heap.size W w') := Lib.hid (fun W v hB h => dtext_some X v W h HX35.out hY1 (by omega) (HTA.out W hB))
        have HFi : Hid (∀ W v, IsR W v X → Calls Tryz.prog 21 #[v] W fun e w' => e = .returned (.bool true) ∧ Below W.heap.size W w') := Lib.hid (fun W v h => by
         have h9 := finite_any X v W h (HX35.out.mono (by omega) (k := 100)).2
         rw [decide_eq_true hY1] at h9
         exact h9)
        obtain ⟨PC, hPC⟩ : ∃ P, plc X.den = P := ⟨_, rfl⟩
        obtain ⟨L, hL⟩ : ∃ L, ltx X = L := ⟨_, rfl⟩
        have hLs := ltx_pos X
        rw [hL] at HTx hLs
        rw [hPC] at HPl hY2
        have hLi : (0 : Int) < (L.size : Int) := by omega
        have hmx : max (t : Int) (f : Int) = ((max t f : Nat) : Int) := by omega
        obtain ⟨MX, hMX⟩ : ∃ M, max t f = M := ⟨_, rfl⟩
        rw [hMX] at hmx hY2
        have hPM : (PC : Int) ≤ (MX : Int) := by omega
        have hLd : decide (0 < L.size) = true := decide_eq_true hLs
        clear hY1 hPC hL hLs hMX hY2 hdv HYes HNo
        have q0 := V3.c0 4 rfl; have q1 := V3.c1 4 rfl; have q2 := V3.c2 4 rfl
        go_wp2_with fail
        refine (HPl.out _ _ (V3.rat 0 _ _ rfl)).mono ?_
        rintro e wp ⟨rfl, hb⟩
        have Vp := V3.below hb
        clear V3 hb q0 q1 q2
        have q0 := Vp.c0 4 rfl; have q1 := Vp.c1 4 rfl; have q2 := Vp.c2 4 rfl
        go_wp2_with fail
        refine (HTx.out _ _ Vp.bel (Vp.rat 0 _ _ rfl)).mono ?_
        rintro e wt ⟨rfl, hb⟩
        have Vt := Vp.below hb
        clear Vp hb q0 q1 q2
        have q0 := Vt.c0 4 rfl; have q1 := Vt.c1 4 rfl; have q2 := Vt.c2 4 rfl
        go_wp2_with fail
        refine (HFi.out _ _ (Vt.rat 0 _ _ rfl)).mono ?_
        rintro e wf ⟨rfl, hb⟩
        have HB := Lib.hid (Vt.below hb).bel
        clear Vt hb q0 q1 q2
        go_wp2_with fail
        go_ret
        exact ⟨rfl, HB.out⟩
      · have hdv : ¬ KN ∣ N := fun h => hz (Nat.mod_eq_zero_of_dvd h)
        have V3 := V2.below hb
        clear V2 hb hz hk1 g20
        have hY1 := HNo.out hdv
        have HPl : Hid (∀ W v, IsR W v X → Calls Tryz.prog 18 #[v] W fun e w' => e = .returned (.tuple #[.int .i64 0, .bool false]) ∧ Below W.heap.size W w') := Lib.hid (fun W v h => (places_any X v W h (HX35.out.mono (by omega) (k := 100)).2).mono fun e w' h' => by
         obtain ⟨h1, h2⟩ := h'
         rw [if_neg hY1, decide_eq_false hY1] at h1
         exact ⟨h1, h2⟩)
        have HTx : Hid (∀ W v, Below w.heap.size w W → IsR W v X → Calls Tryz.prog 19 #[v] W fun e w' => e = .returned (.tuple #[.string ⟨#[]⟩, .int .i64 14]) ∧ Below W.heap.size W w') := Lib.hid (fun W v hB h => dtext_none X v W h (HX35.out.mono (by omega) (k := 100)).2 hY1)
        have HFi : Hid (∀ W v, IsR W v X → Calls Tryz.prog 21 #[v] W fun e w' => e = .returned (.bool false) ∧ Below W.heap.size W w') := Lib.hid (fun W v h => by
         have h9 := finite_any X v W h (HX35.out.mono (by omega) (k := 100)).2
         rw [decide_eq_false hY1] at h9
         exact h9)
        clear hY1 hdv HYes HNo
        have q0 := V3.c0 4 rfl; have q1 := V3.c1 4 rfl; have q2 := V3.c2 4 rfl
        go_wp2_with fail
        refine (HPl.out _ _ (V3.rat 0 _ _ rfl)).mono ?_
        rintro e wp ⟨rfl, hb⟩
        have Vp := V3.below hb
        clear V3 hb q0 q1 q2
        have q0 := Vp.c0 4 rfl; have q1 := Vp.c1 4 rfl; have q2 := Vp.c2 4 rfl
        go_wp2_with fail
        refine (HTx.out _ _ Vp.bel (Vp.rat 0 _ _ rfl)).mono ?_
        rintro e wt ⟨rfl, hb⟩
        have Vt := Vp.below hb
        clear Vp hb q0 q1 q2
        have q0 := Vt.c0 4 rfl; have q1 := Vt.c1 4 rfl; have q2 := Vt.c2 4 rfl
        go_wp2_with fail
        refine (HFi.out _ _ (Vt.rat 0 _ _ rfl)).mono ?_
        rintro e wf ⟨rfl, hb⟩
        have HB := Lib.hid (Vt.below hb).bel
        clear Vt hb q0 q1 q2
        go_wp2_with fail
        go_ret
        exact ⟨rfl, HB.out⟩
end Go.Proofs.YtnhobagjpjcigaaGreatDoor
