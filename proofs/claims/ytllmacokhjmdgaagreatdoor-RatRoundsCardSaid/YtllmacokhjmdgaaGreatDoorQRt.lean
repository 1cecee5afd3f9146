/-
  Law 2: RatRounds, the four ways through.
-/
import Derived.Test.YtllmacokhjmdgaaGreatDoorQG
namespace Go.Proofs.YtllmacokhjmdgaaGreatDoor
open Go.RowKit
set_option linter.unusedVariables false
set_option maxRecDepth 100000 in
set_option maxHeartbeats 16000000 in
theorem ratRounds.tieUp (s : ByteArray) (qa : Rat) (w : World) (htab : Tab w) (htb : TabB w) (hs : ¬ (150 : Int) < (s.size : Int)) (hpq : pq s = some qa) (hen : decide ((((rndQ qa : Int) : Rat) - qa).num < 0) = false) (hC : cmpQ (offQ qa) H12 = 0) :
    Calls Tryz.prog 4 #[.string s] w fun e w' => e = .returned (.bool true) ∧ Below w.heap.size w w' := by
  have HAl := Lib.hid (alive_r w htab htb)
  have hsz : Sz 10 qa := pq_sz hpq (by omega) (by omega)
  have HTB : Hid (∀ W, Below w.heap.size w W → TabB W) := Lib.hid (fun W hb => htb.below hb (Nat.le_refl _))
  have HP : Hid (∀ W, TabB W → Calls Tryz.prog 12 #[.string s] W fun e w' => ∃ b x y z x' y' z', e = .returned (.tuple #[.agg #[.bool b, .slice x y z, .slice x' y' z'], .int .i64 0]) ∧ IsR w' (.agg #[.bool b, .slice x y z, .slice x' y' z']) qa ∧ Below W.heap.size W w') := Lib.hid (fun W ht => by
    have := parse_r s W (by omega) ht
    rw [hpq] at this
    exact this)
  have HOf1 : Hid (∀ W, Calls Tryz.prog 11 #[.int .u64 1] W (GaveV 1 W)) := Lib.hid (fun W => (of_any 1 (by decide) W).mono fun e w' h' => by
    obtain ⟨v, h1, h2, h3⟩ := h'
    obtain ⟨x, y, z, rfl⟩ := isN_form h2
    exact ⟨x, y, z, h1, h2, h3⟩)
  have HOf2 : Hid (∀ W, Calls Tryz.prog 11 #[.int .u64 2] W (GaveV 2 W)) := Lib.hid (fun W => (of_any 2 (by decide) W).mono fun e w' h' => by
    obtain ⟨v, h1, h2, h3⟩ := h'
    obtain ⟨x, y, z, rfl⟩ := isN_form h2
    exact ⟨x, y, z, h1, h2, h3⟩)
  have HMk : Hid (∀ W va vb, IsN W va 1 → IsN W vb 2 → TabB W → Calls Tryz.prog 10 #[.bool false, va, vb] W fun e w' => ∃ v, e = .returned (.tuple #[v, .int .i64 0]) ∧ IsR w' v H12 ∧ Below W.heap.size W w') := Lib.hid (fun W va vb h1 h2 ht => make_any H12 false 1 2 va vb W h1 h2 (w_pos 26 (by omega) (by decide)) (w_pos 26 (by omega) (by decide)) (by decide) ht ⟨by rw [h12_parts.1]; simp, by rw [h12_parts.2]; simp, fun _ => by rw [h12_parts.1]; rfl⟩)
  have hzr := sz_rnd hsz (by omega)
  have hze := sz_sub hzr hsz
  have hzm := sz_sub (sz_zero 1 (by omega)) hsz
  have hzo : Sz 40 (offQ qa) := by
    unfold offQ
    split
    · exact (sz_sub (sz_zero 1 (by omega)) hze).mono (by omega)
    · exact hze.mono (by omega)
  have hoff : offQ qa = if false = true then 0 - (((rndQ qa : Int) : Rat) - qa) else ((rndQ qa : Int) : Rat) - qa := by
    unfold offQ
    rw [if_neg (of_decide_eq_false hen), if_neg (by decide)]
  have heq := offQ_eq qa
  have hle := offQ_le qa
  have hnr : ((rndQ (0 - qa) : Int) : Rat) = 0 - ((rndQ qa : Int) : Rat) := by rw [Rat.sub_eq_add_neg, Rat.zero_add, rndQ_neg, Rat.sub_eq_add_neg, Rat.zero_add]
  have hfl : (((0 - qa).floor : Int) : Rat) = 0 - ((qa.ceil : Int) : Rat) := by rw [Rat.ceil_eq_neg_floor_neg, Rat.intCast_neg, Rat.sub_eq_add_neg, Rat.zero_add, Rat.sub_eq_add_neg, Rat.zero_add, Rat.neg_neg]
  have hzce : Sz 12 ((qa.ceil : Int) : Rat) := by
    rw [Rat.ceil_eq_neg_floor_neg, Rat.intCast_neg]
    exact sz_neg ((sz_floor (sz_neg hsz) (by omega)).mono (by omega))
  have hznr := sz_sub (sz_zero 1 (by omega)) hzr
  have hzfl := sz_sub (sz_zero 1 (by omega)) hzce
  have HR1 : Hid (∀ W v, IsR W v qa → Calls Tryz.prog 19 #[v] W (GaveR ((rndQ qa : Int) : Rat) W)) := Lib.hid (fun W v h => round_any qa v W h (hsz.mono (by omega)))
  have HS1 : Hid (∀ W va vb, IsR W va ((rndQ qa : Int) : Rat) → IsR W vb qa → TabB W → Calls Tryz.prog 20 #[va, vb] W (GaveR (((rndQ qa : Int) : Rat) - qa) W)) := Lib.hid (fun W va vb h1 h2 ht => subr_any _ _ _ _ va vb W h1 h2 hzr hsz (by omega) ht)
  have HNg : Hid (∀ W v, IsR W v (((rndQ qa : Int) : Rat) - qa) → Calls Tryz.prog 21 #[v] W fun e w' => e = .returned (.bool false) ∧ Below W.heap.size W w') := Lib.hid (fun W v h => by
    have := neg_any _ v W h
    rwa [hen] at this)
  have HS2 : Hid (∀ W va vb, IsR W va 0 → IsR W vb (((rndQ qa : Int) : Rat) - qa) → TabB W → Calls Tryz.prog 20 #[va, vb] W (GaveR (0 - (((rndQ qa : Int) : Rat) - qa)) W)) := Lib.hid (fun W va vb h1 h2 ht => subr_any _ _ _ _ va vb W h1 h2 (sz_zero 1 (by omega)) hze (by omega) ht)
  have HS3 : Hid (∀ W va vb, IsR W va 0 → IsR W vb qa → TabB W → Calls Tryz.prog 20 #[va, vb] W (GaveR (0 - qa) W)) := Lib.hid (fun W va vb h1 h2 ht => subr_any _ _ _ _ va vb W h1 h2 (sz_zero 1 (by omega)) hsz (by omega) ht)
  have HWh : Hid (∀ W v, IsR W v ((rndQ qa : Int) : Rat) → Calls Tryz.prog 22 #[v] W fun e w' => e = .returned (.bool true) ∧ Below W.heap.size W w') := Lib.hid (fun W v h => by
    have := whole_any _ v W h (hzr.mono (by omega) (k := 100)).2
    rwa [decide_eq_true (Rat.den_intCast _)] at this)
  have HCmp : Hid (∀ W va vb, IsR W va (offQ qa) → IsR W vb H12 → Calls Tryz.prog 23 #[va, vb] W fun e w' => e = .returned (.int .i64 0) ∧ Below W.heap.size W w') := Lib.hid (fun W va vb h1 h2 => by
    have := cmpr_any _ _ va vb W h1 h2 (hzo.mono (by omega)) (sz_h12 50 (by omega))
    rwa [hC] at this)
  have HRm : Hid (∀ W v, IsR W v (0 - qa) → Calls Tryz.prog 19 #[v] W (GaveR (0 - ((rndQ qa : Int) : Rat)) W)) := Lib.hid (fun W v h => by
    have := round_any (0 - qa) v W h (hzm.mono (by omega))
    rwa [hnr] at this)
  have HS4 : Hid (∀ W va vb, IsR W va 0 → IsR W vb ((rndQ qa : Int) : Rat) → TabB W → Calls Tryz.prog 20 #[va, vb] W (GaveR (0 - ((rndQ qa : Int) : Rat)) W)) := Lib.hid (fun W va vb h1 h2 ht => subr_any _ _ _ _ va vb W h1 h2 (sz_zero 1 (by omega)) hzr (by omega) ht)
  have HSa : Hid (∀ W va vb, IsR W va (0 - ((rndQ qa : Int) : Rat)) → IsR W vb (0 - ((rndQ qa : Int) : Rat)) → Calls Tryz.prog 15 #[va, vb] W fun e w' => e = .returned (.bool true) ∧ Below W.heap.size W w') := Lib.hid (fun W va vb h1 h2 => by
    have := same_any _ _ va vb W h1 h2 (hznr.mono (by omega)) (hznr.mono (by omega))
    rwa [decide_eq_true rfl] at this)
  have HFl : Hid (∀ W v, IsR W v (0 - qa) → Calls Tryz.prog 24 #[v] W (GaveR (0 - ((qa.ceil : Int) : Rat)) W)) := Lib.hid (fun W v h => by
    have := floor_any (0 - qa) v W h (hzm.mono (by omega))
    rwa [hfl] at this)
  have HCe : Hid (∀ W v, IsR W v qa → Calls Tryz.prog 25 #[v] W (GaveR ((qa.ceil : Int) : Rat) W)) := Lib.hid (fun W v h => ceil_any qa v W h (hsz.mono (by omega)))
  have HS5 : Hid (∀ W va vb, IsR W va 0 → IsR W vb ((qa.ceil : Int) : Rat) → TabB W → Calls Tryz.prog 20 #[va, vb] W (GaveR (0 - ((qa.ceil : Int) : Rat)) W)) := Lib.hid (fun W va vb h1 h2 ht => subr_any _ _ _ _ va vb W h1 h2 (sz_zero 1 (by omega)) hzce (by omega) ht)
  have HSb : Hid (∀ W va vb, IsR W va (0 - ((qa.ceil : Int) : Rat)) → IsR W vb (0 - ((qa.ceil : Int) : Rat)) → Calls Tryz.prog 15 #[va, vb] W fun e w' => e = .returned (.bool true) ∧ Below W.heap.size W w') := Lib.hid (fun W va vb h1 h2 => by
    have := same_any _ _ va vb W h1 h2 (hzfl.mono (by omega)) (hzfl.mono (by omega))
    rwa [decide_eq_true rfl] at this)
  have hD : offQ qa = H12 := by
    unfold cmpQ at hC
    split at hC
    · cases hC
    · split at hC
      · cases hC
      · rename_i h1 h2
        exact Rat.le_antisymm hle (Rat.not_lt.1 h1)
  have hst : decide (offQ qa = H12) = true := decide_eq_true hD
  have hsg : decide (qa.num < 0) = false := by
    by_cases h : qa.num < 0
    · have := ((heq hD).1 h).1
      rw [decide_eq_true this] at hen
      rw [decide_eq_true h, hen]
    · have := ((heq hD).2 h).1
      rw [decide_eq_false this] at hen
      rw [decide_eq_false h, hen]
  have HNa : Hid (∀ W v, IsR W v qa → Calls Tryz.prog 21 #[v] W fun e w' => e = .returned (.bool false) ∧ Below W.heap.size W w') := Lib.hid (fun W v h => by
    have := neg_any _ v W h
    rwa [hsg] at this)
  have hc2 : cmpQ ((rndQ qa : Int) : Rat) qa = 1 := by
    exact cmpQ_gt ((heq hD).2 (of_decide_eq_false hsg)).2
  have HC2 : Hid (∀ W va vb, IsR W va ((rndQ qa : Int) : Rat) → IsR W vb qa → Calls Tryz.prog 23 #[va, vb] W fun e w' => e = .returned (.int .i64 1) ∧ Below W.heap.size W w') := Lib.hid (fun W va vb h1 h2 => by
    have := cmpr_any _ _ va vb W h1 h2 (hzr.mono (by omega)) (hsz.mono (by omega))
    rwa [hc2] at this)
  have HSt : Hid (∀ W va vb, IsR W va (offQ qa) → IsR W vb H12 → Calls Tryz.prog 15 #[va, vb] W fun e w' => e = .returned (.bool true) ∧ Below W.heap.size W w') := Lib.hid (fun W va vb h1 h2 => by
    have := same_any _ _ va vb W h1 h2 (hzo.mono (by omega)) (sz_h12 100 (by omega))
    rwa [hst] at this)
  obtain ⟨H, hH⟩ : ∃ H, H12 = H := ⟨_, rfl⟩
  obtain ⟨R, hR⟩ : ∃ R, ((rndQ qa : Int) : Rat) = R := ⟨_, rfl⟩
  obtain ⟨CE, hCE⟩ : ∃ R, ((qa.ceil : Int) : Rat) = R := ⟨_, rfl⟩
  obtain ⟨D, hDd⟩ : ∃ D, offQ qa = D := ⟨_, rfl⟩
  rw [hR] at hoff
  rw [hDd] at hoff
  simp only [hH, hR, hCE, hDd] at HMk HR1 HS1 HNg HS2 HWh HCmp HRm HS4 HSa HFl HCe HS5 HSb HSt HC2
  rw [if_neg (by decide)] at hoff
  rw [← hoff] at HS1 HNg
  clear HS2
  obtain ⟨M, hM⟩ : ∃ M, 0 - qa = M := ⟨_, rfl⟩
  obtain ⟨NR, hNR⟩ : ∃ M, 0 - R = M := ⟨_, rfl⟩
  obtain ⟨FL, hFL⟩ : ∃ M, 0 - CE = M := ⟨_, rfl⟩
  simp only [hM, hNR, hFL] at HS3 HRm HS4 HSa HFl HS5 HSb
  clear hpq hen hC hsz hzr hze hzm hzo hoff heq hle hnr hfl hzce hznr hzfl hst hH hR hCE hDd hM hNR hFL hsg hc2 hD
  go_enter Tryz.func4, Tryz.ntmps4
  go_wp2_with fail
  refine HAl.out.mono ?_
  rintro e w1 ⟨rfl, hb1⟩
  have B1 := (Mq.refl w).below hb1
  go_wp2_with fail
  refine (HP.out _ (HTB.out _ B1.bel)).mono ?_
  rintro e w2 ⟨bA, pA, nA, cA, qA, mA, dA, rfl, rA, hb⟩
  have V2 := ((B1.below hb).rcons rA).alloc 28 #[.bool bA, .slice pA nA cA, .slice qA mA dA]
  clear B1 hb1 rA
  have Q2 := V2.bel
  go_wp2_with fail
  refine (HOf1.out _).mono ?_
  rintro e w3 ⟨x1, y1, z1, rfl, i1, hb⟩
  have V3 := (V2.below hb).cons i1 (w_pos 100 (by omega) (by decide))
  clear V2 Q2
  go_wp2_with fail
  refine (HOf2.out _).mono ?_
  rintro e w4 ⟨x2, y2, z2, rfl, i2, hb⟩
  have V4 := (V3.below hb).cons i2 (w_pos 100 (by omega) (by decide))
  clear V3
  go_wp2_with fail
  refine (HMk.out _ _ _ (V4.num 1 _ _ rfl).1 (V4.num 0 _ _ rfl).1 (HTB.out _ V4.bel)).mono ?_
  rintro e w5 ⟨vH, rfl, rH, hb⟩
  have V5' := (V4.below hb).rcons rH
  obtain ⟨pH, nH, cH, qH, mH, dH, rfl, -, -⟩ := rH
  obtain ⟨bH, hbH⟩ : ∃ z, decide (H.num < 0) = z := ⟨_, rfl⟩
  rw [hbH] at V5' ⊢
  have V5 := V5'.alloc 28 #[.bool bH, .slice pH nH cH, .slice qH mH dH]
  have a0 := V5.c0 1 rfl; have a1 := V5.c1 1 rfl; have a2 := V5.c2 1 rfl
  clear V4 V5' i1 i2 hbH
  go_wp2_with fail
  refine (HR1.out _ _ (V5.rat 1 _ _ rfl)).mono ?_
  rintro e w6 ⟨vR, rfl, rR, hb⟩
  have V6' := (V5.below hb).rcons rR
  obtain ⟨pR, nR, cR, qR, mR, dR, rfl, -, -⟩ := rR
  obtain ⟨bR, hbR⟩ : ∃ z, decide (R.num < 0) = z := ⟨_, rfl⟩
  rw [hbR] at V6' ⊢
  have V6 := V6'.alloc 28 #[.bool bR, .slice pR nR cR, .slice qR mR dR]
  have a0 := V6.c0 2 rfl; have a1 := V6.c1 2 rfl; have a2 := V6.c2 2 rfl
  have g0 := V6.c0 0 rfl; have g1 := V6.c1 0 rfl; have g2 := V6.c2 0 rfl
  clear V5 V6' hbR
  go_wp2_with fail
  refine (HS1.out _ _ _ (V6.rat 0 _ _ rfl) (V6.rat 2 _ _ rfl) (HTB.out _ V6.bel)).mono ?_
  rintro e w7 ⟨vD, rfl, rD, hb⟩
  have V7' := (V6.below hb).rcons rD
  obtain ⟨pD, nD, cD, qD, mD, dD, rfl, -, -⟩ := rD
  obtain ⟨bD, hbD⟩ : ∃ z, decide (D.num < 0) = z := ⟨_, rfl⟩
  rw [hbD] at V7' ⊢
  have V7 := V7'.alloc 28 #[.bool bD, .slice pD nD cD, .slice qD mD dD]
  have a0 := V7.c0 0 rfl; have a1 := V7.c1 0 rfl; have a2 := V7.c2 0 rfl
  have g0 := V7.c0 3 rfl; have g1 := V7.c1 3 rfl; have g2 := V7.c2 3 rfl
  go_wp2_with fail
  refine (HNg.out _ _ (V7.rat 0 _ _ rfl)).mono ?_
  rintro e w8 ⟨rfl, hb8⟩
  have V8 := V7.below hb8
  have a0 := V8.c0 0 rfl; have a1 := V8.c1 0 rfl; have a2 := V8.c2 0 rfl
  have g0 := V8.c0 3 rfl; have g1 := V8.c1 3 rfl; have g2 := V8.c2 3 rfl
  have V9 := V8
  clear V6 V7 V7' V8 hbD hb8 hb
  go_wp2_with fail
  refine (HS3.out _ _ _ (isR_zero _) (V9.rat 3 _ _ rfl) (HTB.out _ V9.bel)).mono ?_
  rintro e wA ⟨vM, rfl, rM, hb⟩
  have V10' := (V9.below hb).rcons rM
  obtain ⟨pM, nM, cM, qM, mM, dM, rfl, -, -⟩ := rM
  obtain ⟨bM, hbM⟩ : ∃ z, decide (M.num < 0) = z := ⟨_, rfl⟩
  rw [hbM] at V10' ⊢
  have V0 := V10'.alloc 28 #[.bool bM, .slice pM nM cM, .slice qM mM dM]
  obtain ⟨W0, hW0⟩ : ∃ W0, wA.alloc (.cells #[.bool bM, .slice pM nM cM, .slice qM mM dM] 28) = W0 := ⟨_, rfl⟩
  rw [hW0] at V0
  have HW0 := Lib.hid hW0
  clear V9 V10' hbM hW0
  clear g0 g1 g2 a0 a1 a2
  go_wp2_with fail
  rw [HW0.out]
  refine wp_region_inv 28 (fun a0 dj a W => ∃ vr0 vr1 vr2 vr3 vr4 vr5 vr6 vr7 vr8 vr9 vr10 vr11 vr12 vr13 vr14 vr15 vr16 vr17 vr18 vr19 vr20 vr21 vr22 vr23 vr24 vr25 vr26 vr27 : Value, a = puts a0 [(44, vr0), (45, vr1), (46, vr2), (47, vr3), (48, vr4), (49, vr5), (50, vr6), (51, vr7), (52, vr8), (53, vr9), (54, vr10), (55, vr11), (56, vr12), (57, vr13), (58, vr14), (59, vr15), (60, vr16), (61, vr17), (62, vr18), (63, vr19), (64, vr20), (65, vr21), (66, vr22), (67, vr23), (68, vr24), (69, vr25), (70, vr26), (71, vr27)] ∧ Below W0.heap.size W0 W ∧ (dj 0 = true → vr0 = .agg #[.bool bR, .slice pR nR cR, .slice qR mR dR]) ∧ (dj 1 = true → vr1 = .bool true) ∧ (dj 2 = true → vr2 = .bool false) ∧ (dj 3 = true → vr3 = .bool false) ∧ (dj 4 = true → vr4 = .agg #[.bool bD, .slice pD nD cD, .slice qD mD dD]) ∧ (dj 5 = true → vr5 = .agg #[.bool bH, .slice pH nH cH, .slice qH mH dH]) ∧ (dj 6 = true → vr6 = .int .i64 0) ∧ (dj 7 = true → vr7 = .bool false) ∧ (dj 8 = true → vr8 = .bool false) ∧ (dj 9 = true → vr9 = .bool false) ∧ (dj 10 = true → vr10 = .agg #[.bool bM, .slice pM nM cM, .slice qM mM dM]) ∧ (dj 11 = true → IsR W vr11 (NR)) ∧ (dj 12 = true → vr12 = .agg #[.bool false, .slice none 0 0, .slice none 0 0]) ∧ (dj 13 = true → vr13 = .agg #[.bool bR, .slice pR nR cR, .slice qR mR dR]) ∧ (dj 14 = true → IsR W vr14 (NR)) ∧ (dj 15 = true → vr15 = .bool true) ∧ (dj 16 = true → vr16 = .bool false) ∧ (dj 17 = true → vr17 = .bool false) ∧ (dj 18 = true → vr18 = .bool false) ∧ (dj 19 = true → vr19 = .agg #[.bool bM, .slice pM nM cM, .slice qM mM dM]) ∧ (dj 20 = true → IsR W vr20 (FL)) ∧ (dj 21 = true → vr21 = .agg #[.bool false, .slice none 0 0, .slice none 0 0]) ∧ (dj 22 = true → vr22 = .agg #[.bool bA, .slice pA nA cA, .slice qA mA dA]) ∧ (dj 23 = true → IsR W vr23 (CE)) ∧ (dj 24 = true → IsR W vr24 (FL)) ∧ (dj 25 = true → vr25 = .bool true) ∧ (dj 26 = true → vr26 = .bool false) ∧ (dj 27 = true → vr27 = .bool false)) (by kernel_rfl) (by kernel_rfl) (by kernel_rfl) ?_ ?_ ?_ ?_
  · intro dj hcl i hi1 hi2 hd j hj
    exact absurd (Nat.lt_of_lt_of_le hi2 (of_decide_eq_true (by kernel_rfl))) (Nat.not_lt.2 hi1)
  · refine ⟨undef, undef, undef, undef, undef, undef, undef, undef, undef, undef, undef, undef, undef, undef, undef, undef, undef, undef, undef, undef, undef, undef, undef, undef, undef, undef, undef, undef, (by simp only [puts, List.foldl_cons, List.foldl_nil, List.setIfInBounds_toArray, List.set_cons_zero, List.set_cons_succ]), (Below.refl _ _).drew, (fun h => by cases h), (fun h => by cases h), (fun h => by cases h), (fun h => by cases h), (fun h => by cases h), (fun h => by cases h), (fun h => by cases h), (fun h => by cases h), (fun h => by cases h), (fun h => by cases h), (fun h => by cases h), (fun h => by cases h), (fun h => by cases h), (fun h => by cases h), (fun h => by cases h), (fun h => by cases h), (fun h => by cases h), (fun h => by cases h), (fun h => by cases h), (fun h => by cases h), (fun h => by cases h), (fun h => by cases h), (fun h => by cases h), (fun h => by cases h), (fun h => by cases h), (fun h => by cases h), (fun h => by cases h), (fun h => by cases h)⟩
  · intro dj a W i hi hdi hcl hdep hI K hK
    obtain ⟨vr0, vr1, vr2, vr3, vr4, vr5, vr6, vr7, vr8, vr9, vr10, vr11, vr12, vr13, vr14, vr15, vr16, vr17, vr18, vr19, vr20, vr21, vr22, vr23, vr24, vr25, vr26, vr27, rfl, hB, p0, p1, p2, p3, p4, p5, p6, p7, p8, p9, p10, p11, p12, p13, p14, p15, p16, p17, p18, p19, p20, p21, p22, p23, p24, p25, p26, p27⟩ := hI
    have V := V0.below hB
    obtain rfl | rfl | rfl | rfl | rfl | rfl | rfl | rfl | rfl | rfl | rfl | rfl | rfl | rfl | rfl | rfl | rfl | rfl | rfl | rfl | rfl | rfl | rfl | rfl | rfl | rfl | rfl | rfl : i = 0 ∨ i = 1 ∨ i = 2 ∨ i = 3 ∨ i = 4 ∨ i = 5 ∨ i = 6 ∨ i = 7 ∨ i = 8 ∨ i = 9 ∨ i = 10 ∨ i = 11 ∨ i = 12 ∨ i = 13 ∨ i = 14 ∨ i = 15 ∨ i = 16 ∨ i = 17 ∨ i = 18 ∨ i = 19 ∨ i = 20 ∨ i = 21 ∨ i = 22 ∨ i = 23 ∨ i = 24 ∨ i = 25 ∨ i = 26 ∨ i = 27 := by omega
    · simp only [puts, List.foldl_cons, List.foldl_nil, List.setIfInBounds_toArray, List.set_cons_zero, List.set_cons_succ]
      have c0 := V.c0 2 rfl
      have c1 := V.c1 2 rfl
      have c2 := V.c2 2 rfl
      refine any_op (o := { dst := some 44, op := Op.load 28 (Operand.tmp 7), type := 28, pos := "more.go:40", after := #[], guard := none }) rfl rfl ?_
      go_wp2_with fail
      refine hK.out _ _ ?_
      exact ⟨.agg #[.bool bR, .slice pR nR cR, .slice qR mR dR], vr1, vr2, vr3, vr4, vr5, vr6, vr7, vr8, vr9, vr10, vr11, vr12, vr13, vr14, vr15, vr16, vr17, vr18, vr19, vr20, vr21, vr22, vr23, vr24, vr25, vr26, vr27, (by simp only [puts, List.foldl_cons, List.foldl_nil, List.setIfInBounds_toArray, List.set_cons_zero, List.set_cons_succ]), hB, (fun _ => rfl), p1, p2, p3, p4, p5, p6, p7, p8, p9, p10, p11, p12, p13, p14, p15, p16, p17, p18, p19, p20, p21, p22, p23, p24, p25, p26, p27⟩
    · obtain rfl := p0 (hdep 0 (by kernel_rfl))
      simp only [puts, List.foldl_cons, List.foldl_nil, List.setIfInBounds_toArray, List.set_cons_zero, List.set_cons_succ]
      refine any_op (o := { dst := some 45, op := Op.call { callee := Callee.value (Operand.func 22), args := #[Operand.tmp 44], argTypes := #[28] }, type := 4, pos := "more.go:40", after := #[{ on := 0, ground := Ground.data }], guard := none }) rfl rfl ?_
      have hC := Lib.hid (HWh.out W _ (V.rat 2 _ _ rfl))
      go_simp
      refine hC.out.mono ?_
      rintro e W2 ⟨rfl, hb⟩
      refine hK.out _ _ ?_
      exact ⟨.agg #[.bool bR, .slice pR nR cR, .slice qR mR dR], .bool true, vr2, vr3, vr4, vr5, vr6, vr7, vr8, vr9, vr10, vr11, vr12, vr13, vr14, vr15, vr16, vr17, vr18, vr19, vr20, vr21, vr22, vr23, vr24, vr25, vr26, vr27, (by simp only [puts, List.foldl_cons, List.foldl_nil, List.setIfInBounds_toArray, List.set_cons_zero, List.set_cons_succ]), hB.trans (hb.mono hB.size), (fun _ => rfl), (fun _ => rfl), p2, p3, p4, p5, p6, p7, p8, p9, p10, (fun h => (p11 h).below hb (Nat.le_refl _)), p12, p13, (fun h => (p14 h).below hb (Nat.le_refl _)), p15, p16, p17, p18, p19, (fun h => (p20 h).below hb (Nat.le_refl _)), p21, p22, (fun h => (p23 h).below hb (Nat.le_refl _)), (fun h => (p24 h).below hb (Nat.le_refl _)), p25, p26, p27⟩
    · obtain rfl := p1 (hdep 1 (by kernel_rfl))
      simp only [puts, List.foldl_cons, List.foldl_nil, List.setIfInBounds_toArray, List.set_cons_zero, List.set_cons_succ]
      refine any_op (o := { dst := some 46, op := Op.unOp UnOp.not 4 (Operand.tmp 45), type := 4, pos := "more.go:40", after := #[{ on := 1, ground := Ground.data }], guard := none }) rfl rfl ?_
      go_wp2_with fail
      refine hK.out _ _ ?_
      exact ⟨vr0, .bool true, .bool false, vr3, vr4, vr5, vr6, vr7, vr8, vr9, vr10, vr11, vr12, vr13, vr14, vr15, vr16, vr17, vr18, vr19, vr20, vr21, vr22, vr23, vr24, vr25, vr26, vr27, (by simp only [puts, List.foldl_cons, List.foldl_nil, List.setIfInBounds_toArray, List.set_cons_zero, List.set_cons_succ]), hB, p0, (fun _ => rfl), (fun _ => rfl), p3, p4, p5, p6, p7, p8, p9, p10, p11, p12, p13, p14, p15, p16, p17, p18, p19, p20, p21, p22, p23, p24, p25, p26, p27⟩
    · obtain rfl := p1 (hdep 1 (by kernel_rfl))
      obtain rfl := p2 (hdep 2 (by kernel_rfl))
      simp only [puts, List.foldl_cons, List.foldl_nil, List.setIfInBounds_toArray, List.set_cons_zero, List.set_cons_succ]
      refine any_op (o := { dst := some 47, op := Op.move (Operand.tmp 46), type := 4, pos := "more.go:40", after := #[{ on := 2, ground := Ground.data }, { on := 1, ground := Ground.chain }], guard := none }) rfl rfl ?_
      go_wp2_with fail
      refine hK.out _ _ ?_
      exact ⟨vr0, .bool true, .bool false, .bool false, vr4, vr5, vr6, vr7, vr8, vr9, vr10, vr11, vr12, vr13, vr14, vr15, vr16, vr17, vr18, vr19, vr20, vr21, vr22, vr23, vr24, vr25, vr26, vr27, (by simp only [puts, List.foldl_cons, List.foldl_nil, List.setIfInBounds_toArray, List.set_cons_zero, List.set_cons_succ]), hB, p0, (fun _ => rfl), (fun _ => rfl), (fun _ => rfl), p4, p5, p6, p7, p8, p9, p10, p11, p12, p13, p14, p15, p16, p17, p18, p19, p20, p21, p22, p23, p24, p25, p26, p27⟩
    · obtain rfl := p3 (hdep 3 (by kernel_rfl))
      simp only [puts, List.foldl_cons, List.foldl_nil, List.setIfInBounds_toArray, List.set_cons_zero, List.set_cons_succ]
      have c0 := V.c0 1 rfl
      have c1 := V.c1 1 rfl
      have c2 := V.c2 1 rfl
      refine any_opg (o := { dst := some 48, op := Op.load 28 (Operand.tmp 8), type := 28, pos := "more.go:40", after := #[{ on := 3, ground := Ground.guard }], guard := some (3, false) }) rfl (by kernel_rfl) ?_
      go_wp2_with fail
      refine hK.out _ _ ?_
      exact ⟨vr0, vr1, vr2, .bool false, .agg #[.bool bD, .slice pD nD cD, .slice qD mD dD], vr5, vr6, vr7, vr8, vr9, vr10, vr11, vr12, vr13, vr14, vr15, vr16, vr17, vr18, vr19, vr20, vr21, vr22, vr23, vr24, vr25, vr26, vr27, (by simp only [puts, List.foldl_cons, List.foldl_nil, List.setIfInBounds_toArray, List.set_cons_zero, List.set_cons_succ]), hB, p0, p1, p2, (fun _ => rfl), (fun _ => rfl), p5, p6, p7, p8, p9, p10, p11, p12, p13, p14, p15, p16, p17, p18, p19, p20, p21, p22, p23, p24, p25, p26, p27⟩
    · obtain rfl := p3 (hdep 3 (by kernel_rfl))
      simp only [puts, List.foldl_cons, List.foldl_nil, List.setIfInBounds_toArray, List.set_cons_zero, List.set_cons_succ]
      have c0 := V.c0 3 rfl
      have c1 := V.c1 3 rfl
      have c2 := V.c2 3 rfl
      refine any_opg (o := { dst := some 49, op := Op.load 28 (Operand.tmp 5), type := 28, pos := "more.go:40", after := #[{ on := 3, ground := Ground.guard }], guard := some (3, false) }) rfl (by kernel_rfl) ?_
      go_wp2_with fail
      refine hK.out _ _ ?_
      exact ⟨vr0, vr1, vr2, .bool false, vr4, .agg #[.bool bH, .slice pH nH cH, .slice qH mH dH], vr6, vr7, vr8, vr9, vr10, vr11, vr12, vr13, vr14, vr15, vr16, vr17, vr18, vr19, vr20, vr21, vr22, vr23, vr24, vr25, vr26, vr27, (by simp only [puts, List.foldl_cons, List.foldl_nil, List.setIfInBounds_toArray, List.set_cons_zero, List.set_cons_succ]), hB, p0, p1, p2, (fun _ => rfl), p4, (fun _ => rfl), p6, p7, p8, p9, p10, p11, p12, p13, p14, p15, p16, p17, p18, p19, p20, p21, p22, p23, p24, p25, p26, p27⟩
    · obtain rfl := p3 (hdep 3 (by kernel_rfl))
      obtain rfl := p4 (hdep 4 (by kernel_rfl))
      obtain rfl := p5 (hdep 5 (by kernel_rfl))
      simp only [puts, List.foldl_cons, List.foldl_nil, List.setIfInBounds_toArray, List.set_cons_zero, List.set_cons_succ]
      refine any_opg (o := { dst := some 50, op := Op.call { callee := Callee.value (Operand.func 23), args := #[Operand.tmp 48, Operand.tmp 49], argTypes := #[28, 28] }, type := 3, pos := "more.go:40", after := #[{ on := 4, ground := Ground.data }, { on := 5, ground := Ground.data }, { on := 3, ground := Ground.chain }, { on := 3, ground := Ground.guard }], guard := some (3, false) }) rfl (by kernel_rfl) ?_
      have hC := Lib.hid (HCmp.out W _ _ (V.rat 1 _ _ rfl) (V.rat 3 _ _ rfl))
      go_simp
      refine hC.out.mono ?_
      rintro e W2 ⟨rfl, hb⟩
      refine hK.out _ _ ?_
      exact ⟨vr0, vr1, vr2, .bool false, .agg #[.bool bD, .slice pD nD cD, .slice qD mD dD], .agg #[.bool bH, .slice pH nH cH, .slice qH mH dH], .int .i64 0, vr7, vr8, vr9, vr10, vr11, vr12, vr13, vr14, vr15, vr16, vr17, vr18, vr19, vr20, vr21, vr22, vr23, vr24, vr25, vr26, vr27, (by simp only [puts, List.foldl_cons, List.foldl_nil, List.setIfInBounds_toArray, List.set_cons_zero, List.set_cons_succ]), hB.trans (hb.mono hB.size), p0, p1, p2, (fun _ => rfl), (fun _ => rfl), (fun _ => rfl), (fun _ => rfl), p7, p8, p9, p10, (fun h => (p11 h).below hb (Nat.le_refl _)), p12, p13, (fun h => (p14 h).below hb (Nat.le_refl _)), p15, p16, p17, p18, p19, (fun h => (p20 h).below hb (Nat.le_refl _)), p21, p22, (fun h => (p23 h).below hb (Nat.le_refl _)), (fun h => (p24 h).below hb (Nat.le_refl _)), p25, p26, p27⟩
    · obtain rfl := p3 (hdep 3 (by kernel_rfl))
      obtain rfl := p6 (hdep 6 (by kernel_rfl))
      simp only [puts, List.foldl_cons, List.foldl_nil, List.setIfInBounds_toArray, List.set_cons_zero, List.set_cons_succ]
      refine any_opg (o := { dst := some 51, op := Op.binOp BinOp.gtr 3 (Operand.tmp 50) (Operand.const (Value.int IntKind.i64 0)) 3, type := 4, pos := "more.go:40", after := #[{ on := 6, ground := Ground.data }, { on := 3, ground := Ground.guard }], guard := some (3, false) }) rfl (by kernel_rfl) ?_
      go_wp2_with fail
      refine hK.out _ _ ?_
      exact ⟨vr0, vr1, vr2, .bool false, vr4, vr5, .int .i64 0, .bool false, vr8, vr9, vr10, vr11, vr12, vr13, vr14, vr15, vr16, vr17, vr18, vr19, vr20, vr21, vr22, vr23, vr24, vr25, vr26, vr27, (by simp only [puts, List.foldl_cons, List.foldl_nil, List.setIfInBounds_toArray, List.set_cons_zero, List.set_cons_succ]), hB, p0, p1, p2, (fun _ => rfl), p4, p5, (fun _ => rfl), (fun _ => rfl), p8, p9, p10, p11, p12, p13, p14, p15, p16, p17, p18, p19, p20, p21, p22, p23, p24, p25, p26, p27⟩
    · obtain rfl := p3 (hdep 3 (by kernel_rfl))
      obtain rfl := p7 (hdep 7 (by kernel_rfl))
      simp only [puts, List.foldl_cons, List.foldl_nil, List.setIfInBounds_toArray, List.set_cons_zero, List.set_cons_succ]
      refine any_op (o := { dst := some 52, op := Op.pick (Operand.tmp 47) (Operand.const (Value.bool true)) (Operand.tmp 51), type := 4, pos := "more.go:40", after := #[{ on := 3, ground := Ground.data }, { on := 7, ground := Ground.data }], guard := none }) rfl rfl ?_
      go_wp2_with fail
      refine hK.out _ _ ?_
      exact ⟨vr0, vr1, vr2, .bool false, vr4, vr5, vr6, .bool false, .bool false, vr9, vr10, vr11, vr12, vr13, vr14, vr15, vr16, vr17, vr18, vr19, vr20, vr21, vr22, vr23, vr24, vr25, vr26, vr27, (by simp only [puts, List.foldl_cons, List.foldl_nil, List.setIfInBounds_toArray, List.set_cons_zero, List.set_cons_succ]), hB, p0, p1, p2, (fun _ => rfl), p4, p5, p6, (fun _ => rfl), (fun _ => rfl), p9, p10, p11, p12, p13, p14, p15, p16, p17, p18, p19, p20, p21, p22, p23, p24, p25, p26, p27⟩
    · obtain rfl := p6 (hdep 6 (by kernel_rfl))
      obtain rfl := p8 (hdep 8 (by kernel_rfl))
      simp only [puts, List.foldl_cons, List.foldl_nil, List.setIfInBounds_toArray, List.set_cons_zero, List.set_cons_succ]
      refine any_op (o := { dst := some 53, op := Op.move (Operand.tmp 52), type := 4, pos := "more.go:40", after := #[{ on := 8, ground := Ground.data }, { on := 6, ground := Ground.chain }], guard := none }) rfl rfl ?_
      go_wp2_with fail
      refine hK.out _ _ ?_
      exact ⟨vr0, vr1, vr2, vr3, vr4, vr5, .int .i64 0, vr7, .bool false, .bool false, vr10, vr11, vr12, vr13, vr14, vr15, vr16, vr17, vr18, vr19, vr20, vr21, vr22, vr23, vr24, vr25, vr26, vr27, (by simp only [puts, List.foldl_cons, List.foldl_nil, List.setIfInBounds_toArray, List.set_cons_zero, List.set_cons_succ]), hB, p0, p1, p2, p3, p4, p5, (fun _ => rfl), p7, (fun _ => rfl), (fun _ => rfl), p10, p11, p12, p13, p14, p15, p16, p17, p18, p19, p20, p21, p22, p23, p24, p25, p26, p27⟩
    · obtain rfl := p9 (hdep 9 (by kernel_rfl))
      simp only [puts, List.foldl_cons, List.foldl_nil, List.setIfInBounds_toArray, List.set_cons_zero, List.set_cons_succ]
      have c0 := V.c0 0 rfl
      have c1 := V.c1 0 rfl
      have c2 := V.c2 0 rfl
      refine any_opg (o := { dst := some 54, op := Op.load 28 (Operand.tmp 9), type := 28, pos := "more.go:40", after := #[{ on := 9, ground := Ground.guard }], guard := some (9, false) }) rfl (by kernel_rfl) ?_
      go_wp2_with fail
      refine hK.out _ _ ?_
      exact ⟨vr0, vr1, vr2, vr3, vr4, vr5, vr6, vr7, vr8, .bool false, .agg #[.bool bM, .slice pM nM cM, .slice qM mM dM], vr11, vr12, vr13, vr14, vr15, vr16, vr17, vr18, vr19, vr20, vr21, vr22, vr23, vr24, vr25, vr26, vr27, (by simp only [puts, List.foldl_cons, List.foldl_nil, List.setIfInBounds_toArray, List.set_cons_zero, List.set_cons_succ]), hB, p0, p1, p2, p3, p4, p5, p6, p7, p8, (fun _ => rfl), (fun _ => rfl), p11, p12, p13, p14, p15, p16, p17, p18, p19, p20, p21, p22, p23, p24, p25, p26, p27⟩
    · obtain rfl := p9 (hdep 9 (by kernel_rfl))
      obtain rfl := p10 (hdep 10 (by kernel_rfl))
      simp only [puts, List.foldl_cons, List.foldl_nil, List.setIfInBounds_toArray, List.set_cons_zero, List.set_cons_succ]
      refine any_opg (o := { dst := some 55, op := Op.call { callee := Callee.value (Operand.func 19), args := #[Operand.tmp 54], argTypes := #[28] }, type := 28, pos := "more.go:40", after := #[{ on := 10, ground := Ground.data }, { on := 9, ground := Ground.chain }, { on := 9, ground := Ground.guard }], guard := some (9, false) }) rfl (by kernel_rfl) ?_
      have hC := Lib.hid (HRm.out W _ (V.rat 0 _ _ rfl))
      go_simp
      refine hC.out.mono ?_
      rintro e W2 ⟨u, rfl, hn, hb⟩
      refine hK.out _ _ ?_
      exact ⟨vr0, vr1, vr2, vr3, vr4, vr5, vr6, vr7, vr8, .bool false, .agg #[.bool bM, .slice pM nM cM, .slice qM mM dM], u, vr12, vr13, vr14, vr15, vr16, vr17, vr18, vr19, vr20, vr21, vr22, vr23, vr24, vr25, vr26, vr27, (by simp only [puts, List.foldl_cons, List.foldl_nil, List.setIfInBounds_toArray, List.set_cons_zero, List.set_cons_succ]), hB.trans (hb.mono hB.size), p0, p1, p2, p3, p4, p5, p6, p7, p8, (fun _ => rfl), (fun _ => rfl), (fun _ => hn), p12, p13, (fun h => (p14 h).below hb (Nat.le_refl _)), p15, p16, p17, p18, p19, (fun h => (p20 h).below hb (Nat.le_refl _)), p21, p22, (fun h => (p23 h).below hb (Nat.le_refl _)), (fun h => (p24 h).below hb (Nat.le_refl _)), p25, p26, p27⟩
    · obtain rfl := p9 (hdep 9 (by kernel_rfl))
      simp only [puts, List.foldl_cons, List.foldl_nil, List.setIfInBounds_toArray, List.set_cons_zero, List.set_cons_succ]
      refine any_opg (o := { dst := some 56, op := Op.build 28 #[], type := 28, pos := "more.go:40", after := #[{ on := 9, ground := Ground.guard }], guard := some (9, false) }) rfl (by kernel_rfl) ?_
      go_wp2_with fail
      refine hK.out _ _ ?_
      exact ⟨vr0, vr1, vr2, vr3, vr4, vr5, vr6, vr7, vr8, .bool false, vr10, vr11, .agg #[.bool false, .slice none 0 0, .slice none 0 0], vr13, vr14, vr15, vr16, vr17, vr18, vr19, vr20, vr21, vr22, vr23, vr24, vr25, vr26, vr27, (by simp only [puts, List.foldl_cons, List.foldl_nil, List.setIfInBounds_toArray, List.set_cons_zero, List.set_cons_succ]), hB, p0, p1, p2, p3, p4, p5, p6, p7, p8, (fun _ => rfl), p10, p11, (fun _ => rfl), p13, p14, p15, p16, p17, p18, p19, p20, p21, p22, p23, p24, p25, p26, p27⟩
    · obtain rfl := p9 (hdep 9 (by kernel_rfl))
      simp only [puts, List.foldl_cons, List.foldl_nil, List.setIfInBounds_toArray, List.set_cons_zero, List.set_cons_succ]
      have c0 := V.c0 2 rfl
      have c1 := V.c1 2 rfl
      have c2 := V.c2 2 rfl
      refine any_opg (o := { dst := some 57, op := Op.load 28 (Operand.tmp 7), type := 28, pos := "more.go:40", after := #[{ on := 9, ground := Ground.guard }], guard := some (9, false) }) rfl (by kernel_rfl) ?_
      go_wp2_with fail
      refine hK.out _ _ ?_
      exact ⟨vr0, vr1, vr2, vr3, vr4, vr5, vr6, vr7, vr8, .bool false, vr10, vr11, vr12, .agg #[.bool bR, .slice pR nR cR, .slice qR mR dR], vr14, vr15, vr16, vr17, vr18, vr19, vr20, vr21, vr22, vr23, vr24, vr25, vr26, vr27, (by simp only [puts, List.foldl_cons, List.foldl_nil, List.setIfInBounds_toArray, List.set_cons_zero, List.set_cons_succ]), hB, p0, p1, p2, p3, p4, p5, p6, p7, p8, (fun _ => rfl), p10, p11, p12, (fun _ => rfl), p14, p15, p16, p17, p18, p19, p20, p21, p22, p23, p24, p25, p26, p27⟩
    · obtain rfl := p9 (hdep 9 (by kernel_rfl))
      have n11 := p11 (hdep 11 (by kernel_rfl))
      obtain rfl := p12 (hdep 12 (by kernel_rfl))
      obtain rfl := p13 (hdep 13 (by kernel_rfl))
      simp only [puts, List.foldl_cons, List.foldl_nil, List.setIfInBounds_toArray, List.set_cons_zero, List.set_cons_succ]
      refine any_opg (o := { dst := some 58, op := Op.call { callee := Callee.value (Operand.func 20), args := #[Operand.tmp 56, Operand.tmp 57], argTypes := #[28, 28] }, type := 28, pos := "more.go:40", after := #[{ on := 12, ground := Ground.data }, { on := 13, ground := Ground.data }, { on := 11, ground := Ground.chain }, { on := 9, ground := Ground.guard }], guard := some (9, false) }) rfl (by kernel_rfl) ?_
      have hC := Lib.hid (HS4.out W _ _ (isR_zero W) (V.rat 2 _ _ rfl) (HTB.out W V.bel))
      go_simp
      refine hC.out.mono ?_
      rintro e W2 ⟨u, rfl, hn, hb⟩
      refine hK.out _ _ ?_
      exact ⟨vr0, vr1, vr2, vr3, vr4, vr5, vr6, vr7, vr8, .bool false, vr10, vr11, .agg #[.bool false, .slice none 0 0, .slice none 0 0], .agg #[.bool bR, .slice pR nR cR, .slice qR mR dR], u, vr15, vr16, vr17, vr18, vr19, vr20, vr21, vr22, vr23, vr24, vr25, vr26, vr27, (by simp only [puts, List.foldl_cons, List.foldl_nil, List.setIfInBounds_toArray, List.set_cons_zero, List.set_cons_succ]), hB.trans (hb.mono hB.size), p0, p1, p2, p3, p4, p5, p6, p7, p8, (fun _ => rfl), p10, (fun _ => n11.below hb (Nat.le_refl _)), (fun _ => rfl), (fun _ => rfl), (fun _ => hn), p15, p16, p17, p18, p19, (fun h => (p20 h).below hb (Nat.le_refl _)), p21, p22, (fun h => (p23 h).below hb (Nat.le_refl _)), (fun h => (p24 h).below hb (Nat.le_refl _)), p25, p26, p27⟩
    · obtain rfl := p9 (hdep 9 (by kernel_rfl))
      have n11 := p11 (hdep 11 (by kernel_rfl))
      have n14 := p14 (hdep 14 (by kernel_rfl))
      simp only [puts, List.foldl_cons, List.foldl_nil, List.setIfInBounds_toArray, List.set_cons_zero, List.set_cons_succ]
      refine any_opg (o := { dst := some 59, op := Op.call { callee := Callee.value (Operand.func 15), args := #[Operand.tmp 55, Operand.tmp 58], argTypes := #[28, 28] }, type := 4, pos := "more.go:40", after := #[{ on := 11, ground := Ground.data }, { on := 14, ground := Ground.data }, { on := 14, ground := Ground.chain }, { on := 9, ground := Ground.guard }], guard := some (9, false) }) rfl (by kernel_rfl) ?_
      have hC := Lib.hid (HSa.out W _ _ n11 n14)
      go_simp
      refine hC.out.mono ?_
      rintro e W2 ⟨rfl, hb⟩
      refine hK.out _ _ ?_
      exact ⟨vr0, vr1, vr2, vr3, vr4, vr5, vr6, vr7, vr8, .bool false, vr10, vr11, vr12, vr13, vr14, .bool true, vr16, vr17, vr18, vr19, vr20, vr21, vr22, vr23, vr24, vr25, vr26, vr27, (by simp only [puts, List.foldl_cons, List.foldl_nil, List.setIfInBounds_toArray, List.set_cons_zero, List.set_cons_succ]), hB.trans (hb.mono hB.size), p0, p1, p2, p3, p4, p5, p6, p7, p8, (fun _ => rfl), p10, (fun _ => n11.below hb (Nat.le_refl _)), p12, p13, (fun _ => n14.below hb (Nat.le_refl _)), (fun _ => rfl), p16, p17, p18, p19, (fun h => (p20 h).below hb (Nat.le_refl _)), p21, p22, (fun h => (p23 h).below hb (Nat.le_refl _)), (fun h => (p24 h).below hb (Nat.le_refl _)), p25, p26, p27⟩
    · obtain rfl := p9 (hdep 9 (by kernel_rfl))
      obtain rfl := p15 (hdep 15 (by kernel_rfl))
      simp only [puts, List.foldl_cons, List.foldl_nil, List.setIfInBounds_toArray, List.set_cons_zero, List.set_cons_succ]
      refine any_opg (o := { dst := some 60, op := Op.unOp UnOp.not 4 (Operand.tmp 59), type := 4, pos := "more.go:40", after := #[{ on := 15, ground := Ground.data }, { on := 9, ground := Ground.guard }], guard := some (9, false) }) rfl (by kernel_rfl) ?_
      go_wp2_with fail
      refine hK.out _ _ ?_
      exact ⟨vr0, vr1, vr2, vr3, vr4, vr5, vr6, vr7, vr8, .bool false, vr10, vr11, vr12, vr13, vr14, .bool true, .bool false, vr17, vr18, vr19, vr20, vr21, vr22, vr23, vr24, vr25, vr26, vr27, (by simp only [puts, List.foldl_cons, List.foldl_nil, List.setIfInBounds_toArray, List.set_cons_zero, List.set_cons_succ]), hB, p0, p1, p2, p3, p4, p5, p6, p7, p8, (fun _ => rfl), p10, p11, p12, p13, p14, (fun _ => rfl), (fun _ => rfl), p17, p18, p19, p20, p21, p22, p23, p24, p25, p26, p27⟩
    · obtain rfl := p9 (hdep 9 (by kernel_rfl))
      obtain rfl := p16 (hdep 16 (by kernel_rfl))
      simp only [puts, List.foldl_cons, List.foldl_nil, List.setIfInBounds_toArray, List.set_cons_zero, List.set_cons_succ]
      refine any_op (o := { dst := some 61, op := Op.pick (Operand.tmp 53) (Operand.const (Value.bool true)) (Operand.tmp 60), type := 4, pos := "more.go:40", after := #[{ on := 9, ground := Ground.data }, { on := 16, ground := Ground.data }], guard := none }) rfl rfl ?_
      go_wp2_with fail
      refine hK.out _ _ ?_
      exact ⟨vr0, vr1, vr2, vr3, vr4, vr5, vr6, vr7, vr8, .bool false, vr10, vr11, vr12, vr13, vr14, vr15, .bool false, .bool false, vr18, vr19, vr20, vr21, vr22, vr23, vr24, vr25, vr26, vr27, (by simp only [puts, List.foldl_cons, List.foldl_nil, List.setIfInBounds_toArray, List.set_cons_zero, List.set_cons_succ]), hB, p0, p1, p2, p3, p4, p5, p6, p7, p8, (fun _ => rfl), p10, p11, p12, p13, p14, p15, (fun _ => rfl), (fun _ => rfl), p18, p19, p20, p21, p22, p23, p24, p25, p26, p27⟩
    · obtain rfl := p15 (hdep 15 (by kernel_rfl))
      obtain rfl := p17 (hdep 17 (by kernel_rfl))
      simp only [puts, List.foldl_cons, List.foldl_nil, List.setIfInBounds_toArray, List.set_cons_zero, List.set_cons_succ]
      refine any_op (o := { dst := some 62, op := Op.move (Operand.tmp 61), type := 4, pos := "more.go:40", after := #[{ on := 17, ground := Ground.data }, { on := 15, ground := Ground.chain }], guard := none }) rfl rfl ?_
      go_wp2_with fail
      refine hK.out _ _ ?_
      exact ⟨vr0, vr1, vr2, vr3, vr4, vr5, vr6, vr7, vr8, vr9, vr10, vr11, vr12, vr13, vr14, .bool true, vr16, .bool false, .bool false, vr19, vr20, vr21, vr22, vr23, vr24, vr25, vr26, vr27, (by simp only [puts, List.foldl_cons, List.foldl_nil, List.setIfInBounds_toArray, List.set_cons_zero, List.set_cons_succ]), hB, p0, p1, p2, p3, p4, p5, p6, p7, p8, p9, p10, p11, p12, p13, p14, (fun _ => rfl), p16, (fun _ => rfl), (fun _ => rfl), p19, p20, p21, p22, p23, p24, p25, p26, p27⟩
    · obtain rfl := p18 (hdep 18 (by kernel_rfl))
      simp only [puts, List.foldl_cons, List.foldl_nil, List.setIfInBounds_toArray, List.set_cons_zero, List.set_cons_succ]
      have c0 := V.c0 0 rfl
      have c1 := V.c1 0 rfl
      have c2 := V.c2 0 rfl
      refine any_opg (o := { dst := some 63, op := Op.load 28 (Operand.tmp 9), type := 28, pos := "more.go:40", after := #[{ on := 18, ground := Ground.guard }], guard := some (18, false) }) rfl (by kernel_rfl) ?_
      go_wp2_with fail
      refine hK.out _ _ ?_
      exact ⟨vr0, vr1, vr2, vr3, vr4, vr5, vr6, vr7, vr8, vr9, vr10, vr11, vr12, vr13, vr14, vr15, vr16, vr17, .bool false, .agg #[.bool bM, .slice pM nM cM, .slice qM mM dM], vr20, vr21, vr22, vr23, vr24, vr25, vr26, vr27, (by simp only [puts, List.foldl_cons, List.foldl_nil, List.setIfInBounds_toArray, List.set_cons_zero, List.set_cons_succ]), hB, p0, p1, p2, p3, p4, p5, p6, p7, p8, p9, p10, p11, p12, p13, p14, p15, p16, p17, (fun _ => rfl), (fun _ => rfl), p20, p21, p22, p23, p24, p25, p26, p27⟩
    · obtain rfl := p18 (hdep 18 (by kernel_rfl))
      obtain rfl := p19 (hdep 19 (by kernel_rfl))
      simp only [puts, List.foldl_cons, List.foldl_nil, List.setIfInBounds_toArray, List.set_cons_zero, List.set_cons_succ]
      refine any_opg (o := { dst := some 64, op := Op.call { callee := Callee.value (Operand.func 24), args := #[Operand.tmp 63], argTypes := #[28] }, type := 28, pos := "more.go:40", after := #[{ on := 19, ground := Ground.data }, { on := 18, ground := Ground.chain }, { on := 18, ground := Ground.guard }], guard := some (18, false) }) rfl (by kernel_rfl) ?_
      have hC := Lib.hid (HFl.out W _ (V.rat 0 _ _ rfl))
      go_simp
      refine hC.out.mono ?_
      rintro e W2 ⟨u, rfl, hn, hb⟩
      refine hK.out _ _ ?_
      exact ⟨vr0, vr1, vr2, vr3, vr4, vr5, vr6, vr7, vr8, vr9, vr10, vr11, vr12, vr13, vr14, vr15, vr16, vr17, .bool false, .agg #[.bool bM, .slice pM nM cM, .slice qM mM dM], u, vr21, vr22, vr23, vr24, vr25, vr26, vr27, (by simp only [puts, List.foldl_cons, List.foldl_nil, List.setIfInBounds_toArray, List.set_cons_zero, List.set_cons_succ]), hB.trans (hb.mono hB.size), p0, p1, p2, p3, p4, p5, p6, p7, p8, p9, p10, (fun h => (p11 h).below hb (Nat.le_refl _)), p12, p13, (fun h => (p14 h).below hb (Nat.le_refl _)), p15, p16, p17, (fun _ => rfl), (fun _ => rfl), (fun _ => hn), p21, p22, (fun h => (p23 h).below hb (Nat.le_refl _)), (fun h => (p24 h).below hb (Nat.le_refl _)), p25, p26, p27⟩
    · obtain rfl := p18 (hdep 18 (by kernel_rfl))
      simp only [puts, List.foldl_cons, List.foldl_nil, List.setIfInBounds_toArray, List.set_cons_zero, List.set_cons_succ]
      refine any_opg (o := { dst := some 65, op := Op.build 28 #[], type := 28, pos := "more.go:40", after := #[{ on := 18, ground := Ground.guard }], guard := some (18, false) }) rfl (by kernel_rfl) ?_
      go_wp2_with fail
      refine hK.out _ _ ?_
      exact ⟨vr0, vr1, vr2, vr3, vr4, vr5, vr6, vr7, vr8, vr9, vr10, vr11, vr12, vr13, vr14, vr15, vr16, vr17, .bool false, vr19, vr20, .agg #[.bool false, .slice none 0 0, .slice none 0 0], vr22, vr23, vr24, vr25, vr26, vr27, (by simp only [puts, List.foldl_cons, List.foldl_nil, List.setIfInBounds_toArray, List.set_cons_zero, List.set_cons_succ]), hB, p0, p1, p2, p3, p4, p5, p6, p7, p8, p9, p10, p11, p12, p13, p14, p15, p16, p17, (fun _ => rfl), p19, p20, (fun _ => rfl), p22, p23, p24, p25, p26, p27⟩
    · obtain rfl := p18 (hdep 18 (by kernel_rfl))
      simp only [puts, List.foldl_cons, List.foldl_nil, List.setIfInBounds_toArray, List.set_cons_zero, List.set_cons_succ]
      have c0 := V.c0 4 rfl
      have c1 := V.c1 4 rfl
      have c2 := V.c2 4 rfl
      refine any_opg (o := { dst := some 66, op := Op.load 28 (Operand.tmp 3), type := 28, pos := "more.go:40", after := #[{ on := 18, ground := Ground.guard }], guard := some (18, false) }) rfl (by kernel_rfl) ?_
      go_wp2_with fail
      refine hK.out _ _ ?_
      exact ⟨vr0, vr1, vr2, vr3, vr4, vr5, vr6, vr7, vr8, vr9, vr10, vr11, vr12, vr13, vr14, vr15, vr16, vr17, .bool false, vr19, vr20, vr21, .agg #[.bool bA, .slice pA nA cA, .slice qA mA dA], vr23, vr24, vr25, vr26, vr27, (by simp only [puts, List.foldl_cons, List.foldl_nil, List.setIfInBounds_toArray, List.set_cons_zero, List.set_cons_succ]), hB, p0, p1, p2, p3, p4, p5, p6, p7, p8, p9, p10, p11, p12, p13, p14, p15, p16, p17, (fun _ => rfl), p19, p20, p21, (fun _ => rfl), p23, p24, p25, p26, p27⟩
    · obtain rfl := p18 (hdep 18 (by kernel_rfl))
      have n20 := p20 (hdep 20 (by kernel_rfl))
      obtain rfl := p22 (hdep 22 (by kernel_rfl))
      simp only [puts, List.foldl_cons, List.foldl_nil, List.setIfInBounds_toArray, List.set_cons_zero, List.set_cons_succ]
      refine any_opg (o := { dst := some 67, op := Op.call { callee := Callee.value (Operand.func 25), args := #[Operand.tmp 66], argTypes := #[28] }, type := 28, pos := "more.go:40", after := #[{ on := 22, ground := Ground.data }, { on := 20, ground := Ground.chain }, { on := 18, ground := Ground.guard }], guard := some (18, false) }) rfl (by kernel_rfl) ?_
      have hC := Lib.hid (HCe.out W _ (V.rat 4 _ _ rfl))
      go_simp
      refine hC.out.mono ?_
      rintro e W2 ⟨u, rfl, hn, hb⟩
      refine hK.out _ _ ?_
      exact ⟨vr0, vr1, vr2, vr3, vr4, vr5, vr6, vr7, vr8, vr9, vr10, vr11, vr12, vr13, vr14, vr15, vr16, vr17, .bool false, vr19, vr20, vr21, .agg #[.bool bA, .slice pA nA cA, .slice qA mA dA], u, vr24, vr25, vr26, vr27, (by simp only [puts, List.foldl_cons, List.foldl_nil, List.setIfInBounds_toArray, List.set_cons_zero, List.set_cons_succ]), hB.trans (hb.mono hB.size), p0, p1, p2, p3, p4, p5, p6, p7, p8, p9, p10, (fun h => (p11 h).below hb (Nat.le_refl _)), p12, p13, (fun h => (p14 h).below hb (Nat.le_refl _)), p15, p16, p17, (fun _ => rfl), p19, (fun _ => n20.below hb (Nat.le_refl _)), p21, (fun _ => rfl), (fun _ => hn), (fun h => (p24 h).below hb (Nat.le_refl _)), p25, p26, p27⟩
    · obtain rfl := p18 (hdep 18 (by kernel_rfl))
      obtain rfl := p21 (hdep 21 (by kernel_rfl))
      have n23 := p23 (hdep 23 (by kernel_rfl))
      simp only [puts, List.foldl_cons, List.foldl_nil, List.setIfInBounds_toArray, List.set_cons_zero, List.set_cons_succ]
      refine any_opg (o := { dst := some 68, op := Op.call { callee := Callee.value (Operand.func 20), args := #[Operand.tmp 65, Operand.tmp 67], argTypes := #[28, 28] }, type := 28, pos := "more.go:40", after := #[{ on := 21, ground := Ground.data }, { on := 23, ground := Ground.data }, { on := 23, ground := Ground.chain }, { on := 18, ground := Ground.guard }], guard := some (18, false) }) rfl (by kernel_rfl) ?_
      have hC := Lib.hid (HS5.out W _ _ (isR_zero W) n23 (HTB.out W V.bel))
      go_simp
      refine hC.out.mono ?_
      rintro e W2 ⟨u, rfl, hn, hb⟩
      refine hK.out _ _ ?_
      exact ⟨vr0, vr1, vr2, vr3, vr4, vr5, vr6, vr7, vr8, vr9, vr10, vr11, vr12, vr13, vr14, vr15, vr16, vr17, .bool false, vr19, vr20, .agg #[.bool false, .slice none 0 0, .slice none 0 0], vr22, vr23, u, vr25, vr26, vr27, (by simp only [puts, List.foldl_cons, List.foldl_nil, List.setIfInBounds_toArray, List.set_cons_zero, List.set_cons_succ]), hB.trans (hb.mono hB.size), p0, p1, p2, p3, p4, p5, p6, p7, p8, p9, p10, (fun h => (p11 h).below hb (Nat.le_refl _)), p12, p13, (fun h => (p14 h).below hb (Nat.le_refl _)), p15, p16, p17, (fun _ => rfl), p19, (fun h => (p20 h).below hb (Nat.le_refl _)), (fun _ => rfl), p22, (fun _ => n23.below hb (Nat.le_refl _)), (fun _ => hn), p25, p26, p27⟩
    · obtain rfl := p18 (hdep 18 (by kernel_rfl))
      have n20 := p20 (hdep 20 (by kernel_rfl))
      have n24 := p24 (hdep 24 (by kernel_rfl))
      simp only [puts, List.foldl_cons, List.foldl_nil, List.setIfInBounds_toArray, List.set_cons_zero, List.set_cons_succ]
      refine any_opg (o := { dst := some 69, op := Op.call { callee := Callee.value (Operand.func 15), args := #[Operand.tmp 64, Operand.tmp 68], argTypes := #[28, 28] }, type := 4, pos := "more.go:40", after := #[{ on := 20, ground := Ground.data }, { on := 24, ground := Ground.data }, { on := 24, ground := Ground.chain }, { on := 18, ground := Ground.guard }], guard := some (18, false) }) rfl (by kernel_rfl) ?_
      have hC := Lib.hid (HSb.out W _ _ n20 n24)
      go_simp
      refine hC.out.mono ?_
      rintro e W2 ⟨rfl, hb⟩
      refine hK.out _ _ ?_
      exact ⟨vr0, vr1, vr2, vr3, vr4, vr5, vr6, vr7, vr8, vr9, vr10, vr11, vr12, vr13, vr14, vr15, vr16, vr17, .bool false, vr19, vr20, vr21, vr22, vr23, vr24, .bool true, vr26, vr27, (by simp only [puts, List.foldl_cons, List.foldl_nil, List.setIfInBounds_toArray, List.set_cons_zero, List.set_cons_succ]), hB.trans (hb.mono hB.size), p0, p1, p2, p3, p4, p5, p6, p7, p8, p9, p10, (fun h => (p11 h).below hb (Nat.le_refl _)), p12, p13, (fun h => (p14 h).below hb (Nat.le_refl _)), p15, p16, p17, (fun _ => rfl), p19, (fun _ => n20.below hb (Nat.le_refl _)), p21, p22, (fun h => (p23 h).below hb (Nat.le_refl _)), (fun _ => n24.below hb (Nat.le_refl _)), (fun _ => rfl), p26, p27⟩
    · obtain rfl := p18 (hdep 18 (by kernel_rfl))
      obtain rfl := p25 (hdep 25 (by kernel_rfl))
      simp only [puts, List.foldl_cons, List.foldl_nil, List.setIfInBounds_toArray, List.set_cons_zero, List.set_cons_succ]
      refine any_opg (o := { dst := some 70, op := Op.unOp UnOp.not 4 (Operand.tmp 69), type := 4, pos := "more.go:40", after := #[{ on := 25, ground := Ground.data }, { on := 18, ground := Ground.guard }], guard := some (18, false) }) rfl (by kernel_rfl) ?_
      go_wp2_with fail
      refine hK.out _ _ ?_
      exact ⟨vr0, vr1, vr2, vr3, vr4, vr5, vr6, vr7, vr8, vr9, vr10, vr11, vr12, vr13, vr14, vr15, vr16, vr17, .bool false, vr19, vr20, vr21, vr22, vr23, vr24, .bool true, .bool false, vr27, (by simp only [puts, List.foldl_cons, List.foldl_nil, List.setIfInBounds_toArray, List.set_cons_zero, List.set_cons_succ]), hB, p0, p1, p2, p3, p4, p5, p6, p7, p8, p9, p10, p11, p12, p13, p14, p15, p16, p17, (fun _ => rfl), p19, p20, p21, p22, p23, p24, (fun _ => rfl), (fun _ => rfl), p27⟩
    · obtain rfl := p18 (hdep 18 (by kernel_rfl))
      obtain rfl := p26 (hdep 26 (by kernel_rfl))
      simp only [puts, List.foldl_cons, List.foldl_nil, List.setIfInBounds_toArray, List.set_cons_zero, List.set_cons_succ]
      refine any_op (o := { dst := some 71, op := Op.pick (Operand.tmp 62) (Operand.const (Value.bool true)) (Operand.tmp 70), type := 4, pos := "more.go:40", after := #[{ on := 18, ground := Ground.data }, { on := 26, ground := Ground.data }], guard := none }) rfl rfl ?_
      go_wp2_with fail
      refine hK.out _ _ ?_
      exact ⟨vr0, vr1, vr2, vr3, vr4, vr5, vr6, vr7, vr8, vr9, vr10, vr11, vr12, vr13, vr14, vr15, vr16, vr17, .bool false, vr19, vr20, vr21, vr22, vr23, vr24, vr25, .bool false, .bool false, (by simp only [puts, List.foldl_cons, List.foldl_nil, List.setIfInBounds_toArray, List.set_cons_zero, List.set_cons_succ]), hB, p0, p1, p2, p3, p4, p5, p6, p7, p8, p9, p10, p11, p12, p13, p14, p15, p16, p17, (fun _ => rfl), p19, p20, p21, p22, p23, p24, p25, (fun _ => rfl), (fun _ => rfl)⟩
  · intro dj a W hd hI
    obtain ⟨vr0, vr1, vr2, vr3, vr4, vr5, vr6, vr7, vr8, vr9, vr10, vr11, vr12, vr13, vr14, vr15, vr16, vr17, vr18, vr19, vr20, vr21, vr22, vr23, vr24, vr25, vr26, vr27, rfl, hB, p0, p1, p2, p3, p4, p5, p6, p7, p8, p9, p10, p11, p12, p13, p14, p15, p16, p17, p18, p19, p20, p21, p22, p23, p24, p25, p26, p27⟩ := hI
    have V := V0.below hB
    obtain rfl := p0 (hd 0 (by omega))
    obtain rfl := p1 (hd 1 (by omega))
    obtain rfl := p2 (hd 2 (by omega))
    obtain rfl := p3 (hd 3 (by omega))
    obtain rfl := p4 (hd 4 (by omega))
    obtain rfl := p5 (hd 5 (by omega))
    obtain rfl := p6 (hd 6 (by omega))
    obtain rfl := p7 (hd 7 (by omega))
    obtain rfl := p8 (hd 8 (by omega))
    obtain rfl := p9 (hd 9 (by omega))
    obtain rfl := p10 (hd 10 (by omega))
    have nr11 := p11 (hd 11 (by omega))
    obtain rfl := p12 (hd 12 (by omega))
    obtain rfl := p13 (hd 13 (by omega))
    have nr14 := p14 (hd 14 (by omega))
    obtain rfl := p15 (hd 15 (by omega))
    obtain rfl := p16 (hd 16 (by omega))
    obtain rfl := p17 (hd 17 (by omega))
    obtain rfl := p18 (hd 18 (by omega))
    obtain rfl := p19 (hd 19 (by omega))
    have nr20 := p20 (hd 20 (by omega))
    obtain rfl := p21 (hd 21 (by omega))
    obtain rfl := p22 (hd 22 (by omega))
    have nr23 := p23 (hd 23 (by omega))
    have nr24 := p24 (hd 24 (by omega))
    obtain rfl := p25 (hd 25 (by omega))
    obtain rfl := p26 (hd 26 (by omega))
    obtain rfl := p27 (hd 27 (by omega))
    simp only [puts, List.foldl_cons, List.foldl_nil, List.setIfInBounds_toArray, List.set_cons_zero, List.set_cons_succ]
    show wpAny Tryz.prog .any _ _ 0 #[true, true, true, true, true, true, true, true, true, true, true, true, true, true, true, true, true, true, true, true, true, true, true, true, true, true, true, true] _ _
    have g0 := V.c0 1 rfl; have g1 := V.c1 1 rfl; have g2 := V.c2 1 rfl
    have h0 := V.c0 3 rfl; have h1 := V.c1 3 rfl; have h2 := V.c2 3 rfl
    refine ⟨by kernel_rfl, ?_⟩
    clear V0 nr11 nr14 nr20 nr23 nr24
    go_wp2_with fail
    refine (HSt.out _ _ _ (V.rat 1 _ _ rfl) (V.rat 3 _ _ rfl)).mono ?_
    rintro e wB ⟨rfl, hb⟩
    have V11 := V.below hb
    clear V g0 g1 g2 h0 h1 h2
    have g0 := V11.c0 4 rfl; have g1 := V11.c1 4 rfl; have g2 := V11.c2 4 rfl
    go_wp2_with fail
    refine (HNa.out _ _ (V11.rat 4 _ _ rfl)).mono ?_
    rintro e wC ⟨rfl, hb⟩
    have V12 := V11.below hb
    clear V11 g0 g1 g2
    have g0 := V12.c0 4 rfl; have g1 := V12.c1 4 rfl; have g2 := V12.c2 4 rfl
    go_wp2_with fail
    refine (HNa.out _ _ (V12.rat 4 _ _ rfl)).mono ?_
    rintro e wE ⟨rfl, hb⟩
    have V13 := V12.below hb
    clear V12 g0 g1 g2
    have g0 := V13.c0 4 rfl; have g1 := V13.c1 4 rfl; have g2 := V13.c2 4 rfl
    have h0 := V13.c0 2 rfl; have h1 := V13.c1 2 rfl; have h2 := V13.c2 2 rfl
    go_wp2_with fail
    refine (HC2.out _ _ _ (V13.rat 2 _ _ rfl) (V13.rat 4 _ _ rfl)).mono ?_
    rintro e wD ⟨rfl, hb⟩
    have HB := Lib.hid (V13.below hb).bel
    clear V13 g0 g1 g2 h0 h1 h2
    go_wp2_with fail
    go_ret
    exact ⟨rfl, HB.out⟩
set_option maxRecDepth 100000 in
set_option maxHeartbeats 16000000 in
theorem ratRounds.tieDown (s : ByteArray) (qa : Rat) (w : World) (htab : Tab w) (htb : TabB w) (hs : ¬ (150 : Int) < (s.size : Int)) (hpq : pq s = some qa) (hen : decide ((((rndQ qa : Int) : Rat) - qa).num < 0) = true) (hC : cmpQ (offQ qa) H12 = 0) :
    Calls Tryz.prog 4 #[.string s] w fun e w' => e = .returned (.bool true) ∧ Below w.heap.size w w' := by
  have HAl := Lib.hid (alive_r w htab htb)
  have hsz : Sz 10 qa := pq_sz hpq (by omega) (by omega)
  have HTB : Hid (∀ W, Below w.heap.size w W → TabB W) := Lib.hid (fun W hb => htb.below hb (Nat.le_refl _))
  have HP : Hid (∀ W, TabB W → Calls Tryz.prog 12 #[.string s] W fun e w' => ∃ b x y z x' y' z', e = .returned (.tuple #[.agg #[.bool b, .slice x y z, .slice x' y' z'], .int .i64 0]) ∧ IsR w' (.agg #[.bool b, .slice x y z, .slice x' y' z']) qa ∧ Below W.heap.size W w') := Lib.hid (fun W ht => by
    have := parse_r s W (by omega) ht
    rw [hpq] at this
    exact this)
  have HOf1 : Hid (∀ W, Calls Tryz.prog 11 #[.int .u64 1] W (GaveV 1 W)) := Lib.hid (fun W => (of_any 1 (by decide) W).mono fun e w' h' => by
    obtain ⟨v, h1, h2, h3⟩ := h'
    obtain ⟨x, y, z, rfl⟩ := isN_form h2
    exact ⟨x, y, z, h1, h2, h3⟩)
  have HOf2 : Hid (∀ W, Calls Tryz.prog 11 #[.int .u64 2] W (GaveV 2 W)) := Lib.hid (fun W => (of_any 2 (by decide) W).mono fun e w' h' => by
    obtain ⟨v, h1, h2, h3⟩ := h'
    obtain ⟨x, y, z, rfl⟩ := isN_form h2
    exact ⟨x, y, z, h1, h2, h3⟩)
  have HMk : Hid (∀ W va vb, IsN W va 1 → IsN W vb 2 → TabB W → Calls Tryz.prog 10 #[.bool false, va, vb] W fun e w' => ∃ v, e = .returned (.tuple #[v, .int .i64 0]) ∧ IsR w' v H12 ∧ Below W.heap.size W w') := Lib.hid (fun W va vb h1 h2 ht => make_any H12 false 1 2 va vb W h1 h2 (w_pos 26 (by omega) (by decide)) (w_pos 26 (by omega) (by decide)) (by decide) ht ⟨by rw [h12_parts.1]; simp, by rw [h12_parts.2]; simp, fun _ => by rw [h12_parts.1]; rfl⟩)
  have hzr := sz_rnd hsz (by omega)
  have hze := sz_sub hzr hsz
  have hzm := sz_sub (sz_zero 1 (by omega)) hsz
  have hzo : Sz 40 (offQ qa) := by
    unfold offQ
    split
    · exact (sz_sub (sz_zero 1 (by omega)) hze).mono (by omega)
    · exact hze.mono (by omega)
  have hoff : offQ qa = if true = true then 0 - (((rndQ qa : Int) : Rat) - qa) else ((rndQ qa : Int) : Rat) - qa := by
    unfold offQ
    rw [if_pos (of_decide_eq_true hen), if_pos rfl]
  have heq := offQ_eq qa
  have hle := offQ_le qa
  have hnr : ((rndQ (0 - qa) : Int) : Rat) = 0 - ((rndQ qa : Int) : Rat) := by rw [Rat.sub_eq_add_neg, Rat.zero_add, rndQ_neg, Rat.sub_eq_add_neg, Rat.zero_add]
  have hfl : (((0 - qa).floor : Int) : Rat) = 0 - ((qa.ceil : Int) : Rat) := by rw [Rat.ceil_eq_neg_floor_neg, Rat.intCast_neg, Rat.sub_eq_add_neg, Rat.zero_add, Rat.sub_eq_add_neg, Rat.zero_add, Rat.neg_neg]
  have hzce : Sz 12 ((qa.ceil : Int) : Rat) := by
    rw [Rat.ceil_eq_neg_floor_neg, Rat.intCast_neg]
    exact sz_neg ((sz_floor (sz_neg hsz) (by omega)).mono (by omega))
  have hznr := sz_sub (sz_zero 1 (by omega)) hzr
  have hzfl := sz_sub (sz_zero 1 (by omega)) hzce
  have HR1 : Hid (∀ W v, IsR W v qa → Calls Tryz.prog 19 #[v] W (GaveR ((rndQ qa : Int) : Rat) W)) := Lib.hid (fun W v h => round_any qa v W h (hsz.mono (by omega)))
  have HS1 : Hid (∀ W va vb, IsR W va ((rndQ qa : Int) : Rat) → IsR W vb qa → TabB W → Calls Tryz.prog 20 #[va, vb] W (GaveR (((rndQ qa : Int) : Rat) - qa) W)) := Lib.hid (fun W va vb h1 h2 ht => subr_any _ _ _ _ va vb W h1 h2 hzr hsz (by omega) ht)
  have HNg : Hid (∀ W v, IsR W v (((rndQ qa : Int) : Rat) - qa) → Calls Tryz.prog 21 #[v] W fun e w' => e = .returned (.bool true) ∧ Below W.heap.size W w') := Lib.hid (fun W v h => by
    have := neg_any _ v W h
    rwa [hen] at this)
  have HS2 : Hid (∀ W va vb, IsR W va 0 → IsR W vb (((rndQ qa : Int) : Rat) - qa) → TabB W → Calls Tryz.prog 20 #[va, vb] W (GaveR (0 - (((rndQ qa : Int) : Rat) - qa)) W)) := Lib.hid (fun W va vb h1 h2 ht => subr_any _ _ _ _ va vb W h1 h2 (sz_zero 1 (by omega)) hze (by omega) ht)
  have HS3 : Hid (∀ W va vb, IsR W va 0 → IsR W vb qa → TabB W → Calls Tryz.prog 20 #[va, vb] W (GaveR (0 - qa) W)) := Lib.hid (fun W va vb h1 h2 ht => subr_any _ _ _ _ va vb W h1 h2 (sz_zero 1 (by omega)) hsz (by omega) ht)
  have HWh : Hid (∀ W v, IsR W v ((rndQ qa : Int) : Rat) → Calls Tryz.prog 22 #[v] W fun e w' => e = .returned (.bool true) ∧ Below W.heap.size W w') := Lib.hid (fun W v h => by
    have := whole_any _ v W h (hzr.mono (by omega) (k := 100)).2
    rwa [decide_eq_true (Rat.den_intCast _)] at this)
  have HCmp : Hid (∀ W va vb, IsR W va (offQ qa) → IsR W vb H12 → Calls Tryz.prog 23 #[va, vb] W fun e w' => e = .returned (.int .i64 0) ∧ Below W.heap.size W w') := Lib.hid (fun W va vb h1 h2 => by
    have := cmpr_any _ _ va vb W h1 h2 (hzo.mono (by omega)) (sz_h12 50 (by omega))
    rwa [hC] at this)
  have HRm : Hid (∀ W v, IsR W v (0 - qa) → Calls Tryz.prog 19 #[v] W (GaveR (0 - ((rndQ qa : Int) : Rat)) W)) := Lib.hid (fun W v h => by
    have := round_any (0 - qa) v W h (hzm.mono (by omega))
    rwa [hnr] at this)
  have HS4 : Hid (∀ W va vb, IsR W va 0 → IsR W vb ((rndQ qa : Int) : Rat) → TabB W → Calls Tryz.prog 20 #[va, vb] W (GaveR (0 - ((rndQ qa : Int) : Rat)) W)) := Lib.hid (fun W va vb h1 h2 ht => subr_any _ _ _ _ va vb W h1 h2 (sz_zero 1 (by omega)) hzr (by omega) ht)
  have HSa : Hid (∀ W va vb, IsR W va (0 - ((rndQ qa : Int) : Rat)) → IsR W vb (0 - ((rndQ qa : Int) : Rat)) → Calls Tryz.prog 15 #[va, vb] W fun e w' => e = .returned (.bool true) ∧ Below W.heap.size W w') := Lib.hid (fun W va vb h1 h2 => by
    have := same_any _ _ va vb W h1 h2 (hznr.mono (by omega)) (hznr.mono (by omega))
    rwa [decide_eq_true rfl] at this)
  have HFl : Hid (∀ W v, IsR W v (0 - qa) → Calls Tryz.prog 24 #[v] W (GaveR (0 - ((qa.ceil : Int) : Rat)) W)) := Lib.hid (fun W v h => by
    have := floor_any (0 - qa) v W h (hzm.mono (by omega))
    rwa [hfl] at this)
  have HCe : Hid (∀ W v, IsR W v qa → Calls Tryz.prog 25 #[v] W (GaveR ((qa.ceil : Int) : Rat) W)) := Lib.hid (fun W v h => ceil_any qa v W h (hsz.mono (by omega)))
  have HS5 : Hid (∀ W va vb, IsR W va 0 → IsR W vb ((qa.ceil : Int) : Rat) → TabB W → Calls Tryz.prog 20 #[va, vb] W (GaveR (0 - ((qa.ceil : Int) : Rat)) W)) := Lib.hid (fun W va vb h1 h2 ht => subr_any _ _ _ _ va vb W h1 h2 (sz_zero 1 (by omega)) hzce (by omega) ht)
  have HSb : Hid (∀ W va vb, IsR W va (0 - ((qa.ceil : Int) : Rat)) → IsR W vb (0 - ((qa.ceil : Int) : Rat)) → Calls Tryz.prog 15 #[va, vb] W fun e w' => e = .returned (.bool true) ∧ Below W.heap.size W w') := Lib.hid (fun W va vb h1 h2 => by
    have := same_any _ _ va vb W h1 h2 (hzfl.mono (by omega)) (hzfl.mono (by omega))
    rwa [decide_eq_true rfl] at this)
  have hD : offQ qa = H12 := by
    unfold cmpQ at hC
    split at hC
    · cases hC
    · split at hC
      · cases hC
      · rename_i h1 h2
        exact Rat.le_antisymm hle (Rat.not_lt.1 h1)
  have hst : decide (offQ qa = H12) = true := decide_eq_true hD
  have hsg : decide (qa.num < 0) = true := by
    by_cases h : qa.num < 0
    · have := ((heq hD).1 h).1
      rw [decide_eq_true this] at hen
      rw [decide_eq_true h, hen]
    · have := ((heq hD).2 h).1
      rw [decide_eq_false this] at hen
      rw [decide_eq_false h, hen]
  have HNa : Hid (∀ W v, IsR W v qa → Calls Tryz.prog 21 #[v] W fun e w' => e = .returned (.bool true) ∧ Below W.heap.size W w') := Lib.hid (fun W v h => by
    have := neg_any _ v W h
    rwa [hsg] at this)
  have hc2 : cmpQ ((rndQ qa : Int) : Rat) qa = (-1) := by
    exact cmpQ_lt ((heq hD).1 (of_decide_eq_true hsg)).2
  have HC2 : Hid (∀ W va vb, IsR W va ((rndQ qa : Int) : Rat) → IsR W vb qa → Calls Tryz.prog 23 #[va, vb] W fun e w' => e = .returned (.int .i64 (-1)) ∧ Below W.heap.size W w') := Lib.hid (fun W va vb h1 h2 => by
    have := cmpr_any _ _ va vb W h1 h2 (hzr.mono (by omega)) (hsz.mono (by omega))
    rwa [hc2] at this)
  have HSt : Hid (∀ W va vb, IsR W va (offQ qa) → IsR W vb H12 → Calls Tryz.prog 15 #[va, vb] W fun e w' => e = .returned (.bool true) ∧ Below W.heap.size W w') := Lib.hid (fun W va vb h1 h2 => by
    have := same_any _ _ va vb W h1 h2 (hzo.mono (by omega)) (sz_h12 100 (by omega))
    rwa [hst] at this)
  obtain ⟨H, hH⟩ : ∃ H, H12 = H := ⟨_, rfl⟩
  obtain ⟨R, hR⟩ : ∃ R, ((rndQ qa : Int) : Rat) = R := ⟨_, rfl⟩
  obtain ⟨CE, hCE⟩ : ∃ R, ((qa.ceil : Int) : Rat) = R := ⟨_, rfl⟩
  obtain ⟨D, hDd⟩ : ∃ D, offQ qa = D := ⟨_, rfl⟩
  rw [hR] at hoff
  rw [hDd] at hoff
  simp only [hH, hR, hCE, hDd] at HMk HR1 HS1 HNg HS2 HWh HCmp HRm HS4 HSa HFl HCe HS5 HSb HSt HC2
  rw [if_pos rfl] at hoff
  rw [← hoff] at HS2
  obtain ⟨E, hE⟩ : ∃ E, R - qa = E := ⟨_, rfl⟩
  simp only [hE] at HS1 HNg HS2
  obtain ⟨M, hM⟩ : ∃ M, 0 - qa = M := ⟨_, rfl⟩
  obtain ⟨NR, hNR⟩ : ∃ M, 0 - R = M := ⟨_, rfl⟩
  obtain ⟨FL, hFL⟩ : ∃ M, 0 - CE = M := ⟨_, rfl⟩
  simp only [hM, hNR, hFL] at HS3 HRm HS4 HSa HFl HS5 HSb
  clear hpq hen hC hsz hzr hze hzm hzo hoff heq hle hnr hfl hzce hznr hzfl hst hH hR hCE hDd hM hNR hFL hsg hc2 hD
  go_enter Tryz.func4, Tryz.ntmps4
  go_wp2_with fail
  refine HAl.out.mono ?_
  rintro e w1 ⟨rfl, hb1⟩
  have B1 := (Mq.refl w).below hb1
  go_wp2_with fail
  refine (HP.out _ (HTB.out _ B1.bel)).mono ?_
  rintro e w2 ⟨bA, pA, nA, cA, qA, mA, dA, rfl, rA, hb⟩
  have V2 := ((B1.below hb).rcons rA).alloc 28 #[.bool bA, .slice pA nA cA, .slice qA mA dA]
  clear B1 hb1 rA
  have Q2 := V2.bel
  go_wp2_with fail
  refine (HOf1.out _).mono ?_
  rintro e w3 ⟨x1, y1, z1, rfl, i1, hb⟩
  have V3 := (V2.below hb).cons i1 (w_pos 100 (by omega) (by decide))
  clear V2 Q2
  go_wp2_with fail
  refine (HOf2.out _).mono ?_
  rintro e w4 ⟨x2, y2, z2, rfl, i2, hb⟩
  have V4 := (V3.below hb).cons i2 (w_pos 100 (by omega) (by decide))
  clear V3
  go_wp2_with fail
  refine (HMk.out _ _ _ (V4.num 1 _ _ rfl).1 (V4.num 0 _ _ rfl).1 (HTB.out _ V4.bel)).mono ?_
  rintro e w5 ⟨vH, rfl, rH, hb⟩
  have V5' := (V4.below hb).rcons rH
  obtain ⟨pH, nH, cH, qH, mH, dH, rfl, -, -⟩ := rH
  obtain ⟨bH, hbH⟩ : ∃ z, decide (H.num < 0) = z := ⟨_, rfl⟩
  rw [hbH] at V5' ⊢
  have V5 := V5'.alloc 28 #[.bool bH, .slice pH nH cH, .slice qH mH dH]
  have a0 := V5.c0 1 rfl; have a1 := V5.c1 1 rfl; have a2 := V5.c2 1 rfl
  clear V4 V5' i1 i2 hbH
  go_wp2_with fail
  refine (HR1.out _ _ (V5.rat 1 _ _ rfl)).mono ?_
  rintro e w6 ⟨vR, rfl, rR, hb⟩
  have V6' := (V5.below hb).rcons rR
  obtain ⟨pR, nR, cR, qR, mR, dR, rfl, -, -⟩ := rR
  obtain ⟨bR, hbR⟩ : ∃ z, decide (R.num < 0) = z := ⟨_, rfl⟩
  rw [hbR] at V6' ⊢
  have V6 := V6'.alloc 28 #[.bool bR, .slice pR nR cR, .slice qR mR dR]
  have a0 := V6.c0 2 rfl; have a1 := V6.c1 2 rfl; have a2 := V6.c2 2 rfl
  have g0 := V6.c0 0 rfl; have g1 := V6.c1 0 rfl; have g2 := V6.c2 0 rfl
  clear V5 V6' hbR
  go_wp2_with fail
  refine (HS1.out _ _ _ (V6.rat 0 _ _ rfl) (V6.rat 2 _ _ rfl) (HTB.out _ V6.bel)).mono ?_
  rintro e w7 ⟨vE, rfl, rE, hb⟩
  have V7' := (V6.below hb).rcons rE
  obtain ⟨pE, nE, cE, qE, mE, dE, rfl, -, -⟩ := rE
  obtain ⟨bE, hbE⟩ : ∃ z, decide (E.num < 0) = z := ⟨_, rfl⟩
  rw [hbE] at V7' ⊢
  have V7 := V7'.alloc 28 #[.bool bE, .slice pE nE cE, .slice qE mE dE]
  have a0 := V7.c0 0 rfl; have a1 := V7.c1 0 rfl; have a2 := V7.c2 0 rfl
  have g0 := V7.c0 3 rfl; have g1 := V7.c1 3 rfl; have g2 := V7.c2 3 rfl
  go_wp2_with fail
  refine (HNg.out _ _ (V7.rat 0 _ _ rfl)).mono ?_
  rintro e w8 ⟨rfl, hb8⟩
  have V8 := V7.below hb8
  have a0 := V8.c0 0 rfl; have a1 := V8.c1 0 rfl; have a2 := V8.c2 0 rfl
  have g0 := V8.c0 3 rfl; have g1 := V8.c1 3 rfl; have g2 := V8.c2 3 rfl
  have hl8 : Below w7.heap.size w7 w8 := (below_lit w7 _).trans (hb8.mono (below_lit w7 _).size)
  have k8 := (V8.box 0 _ _ _ rfl).1
  have Y := V6.below hb
  clear V7 hb8
  go_wp2_with fail
  refine (HS2.out _ _ _ (isR_zero _) (V8.rat 0 _ _ rfl) (HTB.out _ V8.bel)).mono ?_
  rintro e w9 ⟨vD, rfl, rD, hb9⟩
  have V9' := V8.below hb9
  have r0 := V9'.c0 0 rfl; have r1 := V9'.c1 0 rfl; have r2 := V9'.c2 0 rfl
  have f0 := V9'.frozen 0 0 rfl; have f1 := V9'.frozen 0 1 rfl; have f2 := V9'.frozen 0 2 rfl
  have k9 := (V9'.box 0 _ _ _ rfl).1
  have rD' := rD
  obtain ⟨pD, nD, cD, qD, mD, dD, rfl, -, -⟩ := rD
  obtain ⟨bD, hbD⟩ : ∃ z, decide (D.num < 0) = z := ⟨_, rfl⟩
  rw [hbD] at rD' ⊢
  have V9 := Y.put3 (hl8.trans (hb9.mono hl8.size)) k9 (Nat.le_refl _) rD' bD pD nD cD qD mD dD
  have g0 := V9.c0 3 rfl; have g1 := V9.c1 3 rfl; have g2 := V9.c2 3 rfl
  clear V6 V7' V8 V9' Y hbE k8 k9 rD' hl8 hbD hb9 hb
  go_wp2_with fail
  refine (HS3.out _ _ _ (isR_zero _) (V9.rat 3 _ _ rfl) (HTB.out _ V9.bel)).mono ?_
  rintro e wA ⟨vM, rfl, rM, hb⟩
  have V10' := (V9.below hb).rcons rM
  obtain ⟨pM, nM, cM, qM, mM, dM, rfl, -, -⟩ := rM
  obtain ⟨bM, hbM⟩ : ∃ z, decide (M.num < 0) = z := ⟨_, rfl⟩
  rw [hbM] at V10' ⊢
  have V0 := V10'.alloc 28 #[.bool bM, .slice pM nM cM, .slice qM mM dM]
  obtain ⟨W0, hW0⟩ : ∃ W0, wA.alloc (.cells #[.bool bM, .slice pM nM cM, .slice qM mM dM] 28) = W0 := ⟨_, rfl⟩
  rw [hW0] at V0
  have HW0 := Lib.hid hW0
  clear V9 V10' hbM hW0
  clear g0 g1 g2 a0 a1 a2
  go_wp2_with fail
  rw [HW0.out]
  refine wp_region_inv 28 (fun a0 dj a W => ∃ vr0 vr1 vr2 vr3 vr4 vr5 vr6 vr7 vr8 vr9 vr10 vr11 vr12 vr13 vr14 vr15 vr16 vr17 vr18 vr19 vr20 vr21 vr22 vr23 vr24 vr25 vr26 vr27 : Value, a = puts a0 [(44, vr0), (45, vr1), (46, vr2), (47, vr3), (48, vr4), (49, vr5), (50, vr6), (51, vr7), (52, vr8), (53, vr9), (54, vr10), (55, vr11), (56, vr12), (57, vr13), (58, vr14), (59, vr15), (60, vr16), (61, vr17), (62, vr18), (63, vr19), (64, vr20), (65, vr21), (66, vr22), (67, vr23), (68, vr24), (69, vr25), (70, vr26), (71, vr27)] ∧ Below W0.heap.size W0 W ∧ (dj 0 = true → vr0 = .agg #[.bool bR, .slice pR nR cR, .slice qR mR dR]) ∧ (dj 1 = true → vr1 = .bool true) ∧ (dj 2 = true → vr2 = .bool false) ∧ (dj 3 = true → vr3 = .bool false) ∧ (dj 4 = true → vr4 = .agg #[.bool bD, .slice pD nD cD, .slice qD mD dD]) ∧ (dj 5 = true → vr5 = .agg #[.bool bH, .slice pH nH cH, .slice qH mH dH]) ∧ (dj 6 = true → vr6 = .int .i64 0) ∧ (dj 7 = true → vr7 = .bool false) ∧ (dj 8 = true → vr8 = .bool false) ∧ (dj 9 = true → vr9 = .bool false) ∧ (dj 10 = true → vr10 = .agg #[.bool bM, .slice pM nM cM, .slice qM mM dM]) ∧ (dj 11 = true → IsR W vr11 (NR)) ∧ (dj 12 = true → vr12 = .agg #[.bool false, .slice none 0 0, .slice none 0 0]) ∧ (dj 13 = true → vr13 = .agg #[.bool bR, .slice pR nR cR, .slice qR mR dR]) ∧ (dj 14 = true → IsR W vr14 (NR)) ∧ (dj 15 = true → vr15 = .bool true) ∧ (dj 16 = true → vr16 = .bool false) ∧ (dj 17 = true → vr17 = .bool false) ∧ (dj 18 = true → vr18 = .bool false) ∧ (dj 19 = true → vr19 = .agg #[.bool bM, .slice pM nM cM, .slice qM mM dM]) ∧ (dj 20 = true → IsR W vr20 (FL)) ∧ (dj 21 = true → vr21 = .agg #[.bool false, .slice none 0 0, .slice none 0 0]) ∧ (dj 22 = true → vr22 = .agg #[.bool bA, .slice pA nA cA, .slice qA mA dA]) ∧ (dj 23 = true → IsR W vr23 (CE)) ∧ (dj 24 = true → IsR W vr24 (FL)) ∧ (dj 25 = true → vr25 = .bool true) ∧ (dj 26 = true → vr26 = .bool false) ∧ (dj 27 = true → vr27 = .bool false)) (by kernel_rfl) (by kernel_rfl) (by kernel_rfl) ?_ ?_ ?_ ?_
  · intro dj hcl i hi1 hi2 hd j hj
    exact absurd (Nat.lt_of_lt_of_le hi2 (of_decide_eq_true (by kernel_rfl))) (Nat.not_lt.2 hi1)
  · refine ⟨undef, undef, undef, undef, undef, undef, undef, undef, undef, undef, undef, undef, undef, undef, undef, undef, undef, undef, undef, undef, undef, undef, undef, undef, undef, undef, undef, undef, (by simp only [puts, List.foldl_cons, List.foldl_nil, List.setIfInBounds_toArray, List.set_cons_zero, List.set_cons_succ]), (Below.refl _ _).drew, (fun h => by cases h), (fun h => by cases h), (fun h => by cases h), (fun h => by cases h), (fun h => by cases h), (fun h => by cases h), (fun h => by cases h), (fun h => by cases h), (fun h => by cases h), (fun h => by cases h), (fun h => by cases h), (fun h => by cases h), (fun h => by cases h), (fun h => by cases h), (fun h => by cases h), (fun h => by cases h), (fun h => by cases h), (fun h => by cases h), (fun h => by cases h), (fun h => by cases h), (fun h => by cases h), (fun h => by cases h), (fun h => by cases h), (fun h => by cases h), (fun h => by cases h), (fun h => by cases h), (fun h => by cases h), (fun h => by cases h)⟩
  · intro dj a W i hi hdi hcl hdep hI K hK
    obtain ⟨vr0, vr1, vr2, vr3, vr4, vr5, vr6, vr7, vr8, vr9, vr10, vr11, vr12, vr13, vr14, vr15, vr16, vr17, vr18, vr19, vr20, vr21, vr22, vr23, vr24, vr25, vr26, vr27, rfl, hB, p0, p1, p2, p3, p4, p5, p6, p7, p8, p9, p10, p11, p12, p13, p14, p15, p16, p17, p18, p19, p20, p21, p22, p23, p24, p25, p26, p27⟩ := hI
    have V := V0.below hB
    obtain rfl | rfl | rfl | rfl | rfl | rfl | rfl | rfl | rfl | rfl | rfl | rfl | rfl | rfl | rfl | rfl | rfl | rfl | rfl | rfl | rfl | rfl | rfl | rfl | rfl | rfl | rfl | rfl : i = 0 ∨ i = 1 ∨ i = 2 ∨ i = 3 ∨ i = 4 ∨ i = 5 ∨ i = 6 ∨ i = 7 ∨ i = 8 ∨ i = 9 ∨ i = 10 ∨ i = 11 ∨ i = 12 ∨ i = 13 ∨ i = 14 ∨ i = 15 ∨ i = 16 ∨ i = 17 ∨ i = 18 ∨ i = 19 ∨ i = 20 ∨ i = 21 ∨ i = 22 ∨ i = 23 ∨ i = 24 ∨ i = 25 ∨ i = 26 ∨ i = 27 := by omega
    · simp only [puts, List.foldl_cons, List.foldl_nil, List.setIfInBounds_toArray, List.set_cons_zero, List.set_cons_succ]
      have c0 := V.c0 2 rfl
      have c1 := V.c1 2 rfl
      have c2 := V.c2 2 rfl
      refine any_op (o := { dst := some 44, op := Op.load 28 (Operand.tmp 7), type := 28, pos := "more.go:40", after := #[], guard := none }) rfl rfl ?_
      go_wp2_with fail
      refine hK.out _ _ ?_
      exact ⟨.agg #[.bool bR, .slice pR nR cR, .slice qR mR dR], vr1, vr2, vr3, vr4, vr5, vr6, vr7, vr8, vr9, vr10, vr11, vr12, vr13, vr14, vr15, vr16, vr17, vr18, vr19, vr20, vr21, vr22, vr23, vr24, vr25, vr26, vr27, (by simp only [puts, List.foldl_cons, List.foldl_nil, List.setIfInBounds_toArray, List.set_cons_zero, List.set_cons_succ]), hB, (fun _ => rfl), p1, p2, p3, p4, p5, p6, p7, p8, p9, p10, p11, p12, p13, p14, p15, p16, p17, p18, p19, p20, p21, p22, p23, p24, p25, p26, p27⟩
    · obtain rfl := p0 (hdep 0 (by kernel_rfl))
      simp only [puts, List.foldl_cons, List.foldl_nil, List.setIfInBounds_toArray, List.set_cons_zero, List.set_cons_succ]
      refine any_op (o := { dst := some 45, op := Op.call { callee := Callee.value (Operand.func 22), args := #[Operand.tmp 44], argTypes := #[28] }, type := 4, pos := "more.go:40", after := #[{ on := 0, ground := Ground.data }], guard := none }) rfl rfl ?_
      have hC := Lib.hid (HWh.out W _ (V.rat 2 _ _ rfl))
      go_simp
      refine hC.out.mono ?_
      rintro e W2 ⟨rfl, hb⟩
      refine hK.out _ _ ?_
      exact ⟨.agg #[.bool bR, .slice pR nR cR, .slice qR mR dR], .bool true, vr2, vr3, vr4, vr5, vr6, vr7, vr8, vr9, vr10, vr11, vr12, vr13, vr14, vr15, vr16, vr17, vr18, vr19, vr20, vr21, vr22, vr23, vr24, vr25, vr26, vr27, (by simp only [puts, List.foldl_cons, List.foldl_nil, List.setIfInBounds_toArray, List.set_cons_zero, List.set_cons_succ]), hB.trans (hb.mono hB.size), (fun _ => rfl), (fun _ => rfl), p2, p3, p4, p5, p6, p7, p8, p9, p10, (fun h => (p11 h).below hb (Nat.le_refl _)), p12, p13, (fun h => (p14 h).below hb (Nat.le_refl _)), p15, p16, p17, p18, p19, (fun h => (p20 h).below hb (Nat.le_refl _)), p21, p22, (fun h => (p23 h).below hb (Nat.le_refl _)), (fun h => (p24 h).below hb (Nat.le_refl _)), p25, p26, p27⟩
    · obtain rfl := p1 (hdep 1 (by kernel_rfl))
      simp only [puts, List.foldl_cons, List.foldl_nil, List.setIfInBounds_toArray, List.set_cons_zero, List.set_cons_succ]
      refine any_op (o := { dst := some 46, op := Op.unOp UnOp.not 4 (Operand.tmp 45), type := 4, pos := "more.go:40", after := #[{ on := 1, ground := Ground.data }], guard := none }) rfl rfl ?_
      go_wp2_with fail
      refine hK.out _ _ ?_
      exact ⟨vr0, .bool true, .bool false, vr3, vr4, vr5, vr6, vr7, vr8, vr9, vr10, vr11, vr12, vr13, vr14, vr15, vr16, vr17, vr18, vr19, vr20, vr21, vr22, vr23, vr24, vr25, vr26, vr27, (by simp only [puts, List.foldl_cons, List.foldl_nil, List.setIfInBounds_toArray, List.set_cons_zero, List.set_cons_succ]), hB, p0, (fun _ => rfl), (fun _ => rfl), p3, p4, p5, p6, p7, p8, p9, p10, p11, p12, p13, p14, p15, p16, p17, p18, p19, p20, p21, p22, p23, p24, p25, p26, p27⟩
    · obtain rfl := p1 (hdep 1 (by kernel_rfl))
      obtain rfl := p2 (hdep 2 (by kernel_rfl))
      simp only [puts, List.foldl_cons, List.foldl_nil, List.setIfInBounds_toArray, List.set_cons_zero, List.set_cons_succ]
      refine any_op (o := { dst := some 47, op := Op.move (Operand.tmp 46), type := 4, pos := "more.go:40", after := #[{ on := 2, ground := Ground.data }, { on := 1, ground := Ground.chain }], guard := none }) rfl rfl ?_
      go_wp2_with fail
      refine hK.out _ _ ?_
      exact ⟨vr0, .bool true, .bool false, .bool false, vr4, vr5, vr6, vr7, vr8, vr9, vr10, vr11, vr12, vr13, vr14, vr15, vr16, vr17, vr18, vr19, vr20, vr21, vr22, vr23, vr24, vr25, vr26, vr27, (by simp only [puts, List.foldl_cons, List.foldl_nil, List.setIfInBounds_toArray, List.set_cons_zero, List.set_cons_succ]), hB, p0, (fun _ => rfl), (fun _ => rfl), (fun _ => rfl), p4, p5, p6, p7, p8, p9, p10, p11, p12, p13, p14, p15, p16, p17, p18, p19, p20, p21, p22, p23, p24, p25, p26, p27⟩
    · obtain rfl := p3 (hdep 3 (by kernel_rfl))
      simp only [puts, List.foldl_cons, List.foldl_nil, List.setIfInBounds_toArray, List.set_cons_zero, List.set_cons_succ]
      have c0 := V.c0 1 rfl
      have c1 := V.c1 1 rfl
      have c2 := V.c2 1 rfl
      refine any_opg (o := { dst := some 48, op := Op.load 28 (Operand.tmp 8), type := 28, pos := "more.go:40", after := #[{ on := 3, ground := Ground.guard }], guard := some (3, false) }) rfl (by kernel_rfl) ?_
      go_wp2_with fail
      refine hK.out _ _ ?_
      exact ⟨vr0, vr1, vr2, .bool false, .agg #[.bool bD, .slice pD nD cD, .slice qD mD dD], vr5, vr6, vr7, vr8, vr9, vr10, vr11, vr12, vr13, vr14, vr15, vr16, vr17, vr18, vr19, vr20, vr21, vr22, vr23, vr24, vr25, vr26, vr27, (by simp only [puts, List.foldl_cons, List.foldl_nil, List.setIfInBounds_toArray, List.set_cons_zero, List.set_cons_succ]), hB, p0, p1, p2, (fun _ => rfl), (fun _ => rfl), p5, p6, p7, p8, p9, p10, p11, p12, p13, p14, p15, p16, p17, p18, p19, p20, p21, p22, p23, p24, p25, p26, p27⟩
    · obtain rfl := p3 (hdep 3 (by kernel_rfl))
      simp only [puts, List.foldl_cons, List.foldl_nil, List.setIfInBounds_toArray, List.set_cons_zero, List.set_cons_succ]
      have c0 := V.c0 3 rfl
      have c1 := V.c1 3 rfl
      have c2 := V.c2 3 rfl
      refine any_opg (o := { dst := some 49, op := Op.load 28 (Operand.tmp 5), type := 28, pos := "more.go:40", after := #[{ on := 3, ground := Ground.guard }], guard := some (3, false) }) rfl (by kernel_rfl) ?_
      go_wp2_with fail
      refine hK.out _ _ ?_
      exact ⟨vr0, vr1, vr2, .bool false, vr4, .agg #[.bool bH, .slice pH nH cH, .slice qH mH dH], vr6, vr7, vr8, vr9, vr10, vr11, vr12, vr13, vr14, vr15, vr16, vr17, vr18, vr19, vr20, vr21, vr22, vr23, vr24, vr25, vr26, vr27, (by simp only [puts, List.foldl_cons, List.foldl_nil, List.setIfInBounds_toArray, List.set_cons_zero, List.set_cons_succ]), hB, p0, p1, p2, (fun _ => rfl), p4, (fun _ => rfl), p6, p7, p8, p9, p10, p11, p12, p13, p14, p15, p16, p17, p18, p19, p20, p21, p22, p23, p24, p25, p26, p27⟩
    · obtain rfl := p3 (hdep 3 (by kernel_rfl))
      obtain rfl := p4 (hdep 4 (by kernel_rfl))
      obtain rfl := p5 (hdep 5 (by kernel_rfl))
      simp only [puts, List.foldl_cons, List.foldl_nil, List.setIfInBounds_toArray, List.set_cons_zero, List.set_cons_succ]
      refine any_opg (o := { dst := some 50, op := Op.call { callee := Callee.value (Operand.func 23), args := #[Operand.tmp 48, Operand.tmp 49], argTypes := #[28, 28] }, type := 3, pos := "more.go:40", after := #[{ on := 4, ground := Ground.data }, { on := 5, ground := Ground.data }, { on := 3, ground := Ground.chain }, { on := 3, ground := Ground.guard }], guard := some (3, false) }) rfl (by kernel_rfl) ?_
      have hC := Lib.hid (HCmp.out W _ _ (V.rat 1 _ _ rfl) (V.rat 3 _ _ rfl))
      go_simp
      refine hC.out.mono ?_
      rintro e W2 ⟨rfl, hb⟩
      refine hK.out _ _ ?_
      exact ⟨vr0, vr1, vr2, .bool false, .agg #[.bool bD, .slice pD nD cD, .slice qD mD dD], .agg #[.bool bH, .slice pH nH cH, .slice qH mH dH], .int .i64 0, vr7, vr8, vr9, vr10, vr11, vr12, vr13, vr14, vr15, vr16, vr17, vr18, vr19, vr20, vr21, vr22, vr23, vr24, vr25, vr26, vr27, (by simp only [puts, List.foldl_cons, List.foldl_nil, List.setIfInBounds_toArray, List.set_cons_zero, List.set_cons_succ]), hB.trans (hb.mono hB.size), p0, p1, p2, (fun _ => rfl), (fun _ => rfl), (fun _ => rfl), (fun _ => rfl), p7, p8, p9, p10, (fun h => (p11 h).below hb (Nat.le_refl _)), p12, p13, (fun h => (p14 h).below hb (Nat.le_refl _)), p15, p16, p17, p18, p19, (fun h => (p20 h).below hb (Nat.le_refl _)), p21, p22, (fun h => (p23 h).below hb (Nat.le_refl _)), (fun h => (p24 h).below hb (Nat.le_refl _)), p25, p26, p27⟩
    · obtain rfl := p3 (hdep 3 (by kernel_rfl))
      obtain rfl := p6 (hdep 6 (by kernel_rfl))
      simp only [puts, List.foldl_cons, List.foldl_nil, List.setIfInBounds_toArray, List.set_cons_zero, List.set_cons_succ]
      refine any_opg (o := { dst := some 51, op := Op.binOp BinOp.gtr 3 (Operand.tmp 50) (Operand.const (Value.int IntKind.i64 0)) 3, type := 4, pos := "more.go:40", after := #[{ on := 6, ground := Ground.data }, { on := 3, ground := Ground.guard }], guard := some (3, false) }) rfl (by kernel_rfl) ?_
      go_wp2_with fail
      refine hK.out _ _ ?_
      exact ⟨vr0, vr1, vr2, .bool false, vr4, vr5, .int .i64 0, .bool false, vr8, vr9, vr10, vr11, vr12, vr13, vr14, vr15, vr16, vr17, vr18, vr19, vr20, vr21, vr22, vr23, vr24, vr25, vr26, vr27, (by simp only [puts, List.foldl_cons, List.foldl_nil, List.setIfInBounds_toArray, List.set_cons_zero, List.set_cons_succ]), hB, p0, p1, p2, (fun _ => rfl), p4, p5, (fun _ => rfl), (fun _ => rfl), p8, p9, p10, p11, p12, p13, p14, p15, p16, p17, p18, p19, p20, p21, p22, p23, p24, p25, p26, p27⟩
    · obtain rfl := p3 (hdep 3 (by kernel_rfl))
      obtain rfl := p7 (hdep 7 (by kernel_rfl))
      simp only [puts, List.foldl_cons, List.foldl_nil, List.setIfInBounds_toArray, List.set_cons_zero, List.set_cons_succ]
      refine any_op (o := { dst := some 52, op := Op.pick (Operand.tmp 47) (Operand.const (Value.bool true)) (Operand.tmp 51), type := 4, pos := "more.go:40", after := #[{ on := 3, ground := Ground.data }, { on := 7, ground := Ground.data }], guard := none }) rfl rfl ?_
      go_wp2_with fail
      refine hK.out _ _ ?_
      exact ⟨vr0, vr1, vr2, .bool false, vr4, vr5, vr6, .bool false, .bool false, vr9, vr10, vr11, vr12, vr13, vr14, vr15, vr16, vr17, vr18, vr19, vr20, vr21, vr22, vr23, vr24, vr25, vr26, vr27, (by simp only [puts, List.foldl_cons, List.foldl_nil, List.setIfInBounds_toArray, List.set_cons_zero, List.set_cons_succ]), hB, p0, p1, p2, (fun _ => rfl), p4, p5, p6, (fun _ => rfl), (fun _ => rfl), p9, p10, p11, p12, p13, p14, p15, p16, p17, p18, p19, p20, p21, p22, p23, p24, p25, p26, p27⟩
    · obtain rfl := p6 (hdep 6 (by kernel_rfl))
      obtain rfl := p8 (hdep 8 (by kernel_rfl))
      simp only [puts, List.foldl_cons, List.foldl_nil, List.setIfInBounds_toArray, List.set_cons_zero, List.set_cons_succ]
      refine any_op (o := { dst := some 53, op := Op.move (Operand.tmp 52), type := 4, pos := "more.go:40", after := #[{ on := 8, ground := Ground.data }, { on := 6, ground := Ground.chain }], guard := none }) rfl rfl ?_
      go_wp2_with fail
      refine hK.out _ _ ?_
      exact ⟨vr0, vr1, vr2, vr3, vr4, vr5, .int .i64 0, vr7, .bool false, .bool false, vr10, vr11, vr12, vr13, vr14, vr15, vr16, vr17, vr18, vr19, vr20, vr21, vr22, vr23, vr24, vr25, vr26, vr27, (by simp only [puts, List.foldl_cons, List.foldl_nil, List.setIfInBounds_toArray, List.set_cons_zero, List.set_cons_succ]), hB, p0, p1, p2, p3, p4, p5, (fun _ => rfl), p7, (fun _ => rfl), (fun _ => rfl), p10, p11, p12, p13, p14, p15, p16, p17, p18, p19, p20, p21, p22, p23, p24, p25, p26, p27⟩
    · obtain rfl := p9 (hdep 9 (by kernel_rfl))
      simp only [puts, List.foldl_cons, List.foldl_nil, List.setIfInBounds_toArray, List.set_cons_zero, List.set_cons_succ]
      have c0 := V.c0 0 rfl
      have c1 := V.c1 0 rfl
      have c2 := V.c2 0 rfl
      refine any_opg (o := { dst := some 54, op := Op.load 28 (Operand.tmp 9), type := 28, pos := "more.go:40", after := #[{ on := 9, ground := Ground.guard }], guard := some (9, false) }) rfl (by kernel_rfl) ?_
      go_wp2_with fail
      refine hK.out _ _ ?_
      exact ⟨vr0, vr1, vr2, vr3, vr4, vr5, vr6, vr7, vr8, .bool false, .agg #[.bool bM, .slice pM nM cM, .slice qM mM dM], vr11, vr12, vr13, vr14, vr15, vr16, vr17, vr18, vr19, vr20, vr21, vr22, vr23, vr24, vr25, vr26, vr27, (by simp only [puts, List.foldl_cons, List.foldl_nil, List.setIfInBounds_toArray, List.set_cons_zero, List.set_cons_succ]), hB, p0, p1, p2, p3, p4, p5, p6, p7, p8, (fun _ => rfl), (fun _ => rfl), p11, p12, p13, p14, p15, p16, p17, p18, p19, p20, p21, p22, p23, p24, p25, p26, p27⟩
    · obtain rfl := p9 (hdep 9 (by kernel_rfl))
      obtain rfl := p10 (hdep 10 (by kernel_rfl))
      simp only [puts, List.foldl_cons, List.foldl_nil, List.setIfInBounds_toArray, List.set_cons_zero, List.set_cons_succ]
      refine any_opg (o := { dst := some 55, op := Op.call { callee := Callee.value (Operand.func 19), args := #[Operand.tmp 54], argTypes := #[28] }, type := 28, pos := "more.go:40", after := #[{ on := 10, ground := Ground.data }, { on := 9, ground := Ground.chain }, { on := 9, ground := Ground.guard }], guard := some (9, false) }) rfl (by kernel_rfl) ?_
      have hC := Lib.hid (HRm.out W _ (V.rat 0 _ _ rfl))
      go_simp
      refine hC.out.mono ?_
      rintro e W2 ⟨u, rfl, hn, hb⟩
      refine hK.out _ _ ?_
      exact ⟨vr0, vr1, vr2, vr3, vr4, vr5, vr6, vr7, vr8, .bool false, .agg #[.bool bM, .slice pM nM cM, .slice qM mM dM], u, vr12, vr13, vr14, vr15, vr16, vr17, vr18, vr19, vr20, vr21, vr22, vr23, vr24, vr25, vr26, vr27, (by simp only [puts, List.foldl_cons, List.foldl_nil, List.setIfInBounds_toArray, List.set_cons_zero, List.set_cons_succ]), hB.trans (hb.mono hB.size), p0, p1, p2, p3, p4, p5, p6, p7, p8, (fun _ => rfl), (fun _ => rfl), (fun _ => hn), p12, p13, (fun h => (p14 h).below hb (Nat.le_refl _)), p15, p16, p17, p18, p19, (fun h => (p20 h).below hb (Nat.le_refl _)), p21, p22, (fun h => (p23 h).below hb (Nat.le_refl _)), (fun h => (p24 h).below hb (Nat.le_refl _)), p25, p26, p27⟩
    · obtain rfl := p9 (hdep 9 (by kernel_rfl))
      simp only [puts, List.foldl_cons, List.foldl_nil, List.setIfInBounds_toArray, List.set_cons_zero, List.set_cons_succ]
      refine any_opg (o := { dst := some 56, op := Op.build 28 #[], type := 28, pos := "more.go:40", after := #[{ on := 9, ground := Ground.guard }], guard := some (9, false) }) rfl (by kernel_rfl) ?_
      go_wp2_with fail
      refine hK.out _ _ ?_
      exact ⟨vr0, vr1, vr2, vr3, vr4, vr5, vr6, vr7, vr8, .bool false, vr10, vr11, .agg #[.bool false, .slice none 0 0, .slice none 0 0], vr13, vr14, vr15, vr16, vr17, vr18, vr19, vr20, vr21, vr22, vr23, vr24, vr25, vr26, vr27, (by simp only [puts, List.foldl_cons, List.foldl_nil, List.setIfInBounds_toArray, List.set_cons_zero, List.set_cons_succ]), hB, p0, p1, p2, p3, p4, p5, p6, p7, p8, (fun _ => rfl), p10, p11, (fun _ => rfl), p13, p14, p15, p16, p17, p18, p19, p20, p21, p22, p23, p24, p25, p26, p27⟩
    · obtain rfl := p9 (hdep 9 (by kernel_rfl))
      simp only [puts, List.foldl_cons, List.foldl_nil, List.setIfInBounds_toArray, List.set_cons_zero, List.set_cons_succ]
      have c0 := V.c0 2 rfl
      have c1 := V.c1 2 rfl
      have c2 := V.c2 2 rfl
      refine any_opg (o := { dst := some 57, op := Op.load 28 (Operand.tmp 7), type := 28, pos := "more.go:40", after := #[{ on := 9, ground := Ground.guard }], guard := some (9, false) }) rfl (by kernel_rfl) ?_
      go_wp2_with fail
      refine hK.out _ _ ?_
      exact ⟨vr0, vr1, vr2, vr3, vr4, vr5, vr6, vr7, vr8, .bool false, vr10, vr11, vr12, .agg #[.bool bR, .slice pR nR cR, .slice qR mR dR], vr14, vr15, vr16, vr17, vr18, vr19, vr20, vr21, vr22, vr23, vr24, vr25, vr26, vr27, (by simp only [puts, List.foldl_cons, List.foldl_nil, List.setIfInBounds_toArray, List.set_cons_zero, List.set_cons_succ]), hB, p0, p1, p2, p3, p4, p5, p6, p7, p8, (fun _ => rfl), p10, p11, p12, (fun _ => rfl), p14, p15, p16, p17, p18, p19, p20, p21, p22, p23, p24, p25, p26, p27⟩
    · obtain rfl := p9 (hdep 9 (by kernel_rfl))
      have n11 := p11 (hdep 11 (by kernel_rfl))
      obtain rfl := p12 (hdep 12 (by kernel_rfl))
      obtain rfl := p13 (hdep 13 (by kernel_rfl))
      simp only [puts, List.foldl_cons, List.foldl_nil, List.setIfInBounds_toArray, List.set_cons_zero, List.set_cons_succ]
      refine any_opg (o := { dst := some 58, op := Op.call { callee := Callee.value (Operand.func 20), args := #[Operand.tmp 56, Operand.tmp 57], argTypes := #[28, 28] }, type := 28, pos := "more.go:40", after := #[{ on := 12, ground := Ground.data }, { on := 13, ground := Ground.data }, { on := 11, ground := Ground.chain }, { on := 9, ground := Ground.guard }], guard := some (9, false) }) rfl (by kernel_rfl) ?_
      have hC := Lib.hid (HS4.out W _ _ (isR_zero W) (V.rat 2 _ _ rfl) (HTB.out W V.bel))
      go_simp
      refine hC.out.mono ?_
      rintro e W2 ⟨u, rfl, hn, hb⟩
      refine hK.out _ _ ?_
      exact ⟨vr0, vr1, vr2, vr3, vr4, vr5, vr6, vr7, vr8, .bool false, vr10, vr11, .agg #[.bool false, .slice none 0 0, .slice none 0 0], .agg #[.bool bR, .slice pR nR cR, .slice qR mR dR], u, vr15, vr16, vr17, vr18, vr19, vr20, vr21, vr22, vr23, vr24, vr25, vr26, vr27, (by simp only [puts, List.foldl_cons, List.foldl_nil, List.setIfInBounds_toArray, List.set_cons_zero, List.set_cons_succ]), hB.trans (hb.mono hB.size), p0, p1, p2, p3, p4, p5, p6, p7, p8, (fun _ => rfl), p10, (fun _ => n11.below hb (Nat.le_refl _)), (fun _ => rfl), (fun _ => rfl), (fun _ => hn), p15, p16, p17, p18, p19, (fun h => (p20 h).below hb (Nat.le_refl _)), p21, p22, (fun h => (p23 h).below hb (Nat.le_refl _)), (fun h => (p24 h).below hb (Nat.le_refl _)), p25, p26, p27⟩
    · obtain rfl := p9 (hdep 9 (by kernel_rfl))
      have n11 := p11 (hdep 11 (by kernel_rfl))
      have n14 := p14 (hdep 14 (by kernel_rfl))
      simp only [puts, List.foldl_cons, List.foldl_nil, List.setIfInBounds_toArray, List.set_cons_zero, List.set_cons_succ]
      refine any_opg (o := { dst := some 59, op := Op.call { callee := Callee.value (Operand.func 15), args := #[Operand.tmp 55, Operand.tmp 58], argTypes := #[28, 28] }, type := 4, pos := "more.go:40", after := #[{ on := 11, ground := Ground.data }, { on := 14, ground := Ground.data }, { on := 14, ground := Ground.chain }, { on := 9, ground := Ground.guard }], guard := some (9, false) }) rfl (by kernel_rfl) ?_
      have hC := Lib.hid (HSa.out W _ _ n11 n14)
      go_simp
      refine hC.out.mono ?_
      rintro e W2 ⟨rfl, hb⟩
      refine hK.out _ _ ?_
      exact ⟨vr0, vr1, vr2, vr3, vr4, vr5, vr6, vr7, vr8, .bool false, vr10, vr11, vr12, vr13, vr14, .bool true, vr16, vr17, vr18, vr19, vr20, vr21, vr22, vr23, vr24, vr25, vr26, vr27, (by simp only [puts, List.foldl_cons, List.foldl_nil, List.setIfInBounds_toArray, List.set_cons_zero, List.set_cons_succ]), hB.trans (hb.mono hB.size), p0, p1, p2, p3, p4, p5, p6, p7, p8, (fun _ => rfl), p10, (fun _ => n11.below hb (Nat.le_refl _)), p12, p13, (fun _ => n14.below hb (Nat.le_refl _)), (fun _ => rfl), p16, p17, p18, p19, (fun h => (p20 h).below hb (Nat.le_refl _)), p21, p22, (fun h => (p23 h).below hb (Nat.le_refl _)), (fun h => (p24 h).below hb (Nat.le_refl _)), p25, p26, p27⟩
    · obtain rfl := p9 (hdep 9 (by kernel_rfl))
      obtain rfl := p15 (hdep 15 (by kernel_rfl))
      simp only [puts, List.foldl_cons, List.foldl_nil, List.setIfInBounds_toArray, List.set_cons_zero, List.set_cons_succ]
      refine any_opg (o := { dst := some 60, op := Op.unOp UnOp.not 4 (Operand.tmp 59), type := 4, pos := "more.go:40", after := #[{ on := 15, ground := Ground.data }, { on := 9, ground := Ground.guard }], guard := some (9, false) }) rfl (by kernel_rfl) ?_
      go_wp2_with fail
      refine hK.out _ _ ?_
      exact ⟨vr0, vr1, vr2, vr3, vr4, vr5, vr6, vr7, vr8, .bool false, vr10, vr11, vr12, vr13, vr14, .bool true, .bool false, vr17, vr18, vr19, vr20, vr21, vr22, vr23, vr24, vr25, vr26, vr27, (by simp only [puts, List.foldl_cons, List.foldl_nil, List.setIfInBounds_toArray, List.set_cons_zero, List.set_cons_succ]), hB, p0, p1, p2, p3, p4, p5, p6, p7, p8, (fun _ => rfl), p10, p11, p12, p13, p14, (fun _ => rfl), (fun _ => rfl), p17, p18, p19, p20, p21, p22, p23, p24, p25, p26, p27⟩
    · obtain rfl := p9 (hdep 9 (by kernel_rfl))
      obtain rfl := p16 (hdep 16 (by kernel_rfl))
      simp only [puts, List.foldl_cons, List.foldl_nil, List.setIfInBounds_toArray, List.set_cons_zero, List.set_cons_succ]
      refine any_op (o := { dst := some 61, op := Op.pick (Operand.tmp 53) (Operand.const (Value.bool true)) (Operand.tmp 60), type := 4, pos := "more.go:40", after := #[{ on := 9, ground := Ground.data }, { on := 16, ground := Ground.data }], guard := none }) rfl rfl ?_
      go_wp2_with fail
      refine hK.out _ _ ?_
      exact ⟨vr0, vr1, vr2, vr3, vr4, vr5, vr6, vr7, vr8, .bool false, vr10, vr11, vr12, vr13, vr14, vr15, .bool false, .bool false, vr18, vr19, vr20, vr21, vr22, vr23, vr24, vr25, vr26, vr27, (by simp only [puts, List.foldl_cons, List.foldl_nil, List.setIfInBounds_toArray, List.set_cons_zero, List.set_cons_succ]), hB, p0, p1, p2, p3, p4, p5, p6, p7, p8, (fun _ => rfl), p10, p11, p12, p13, p14, p15, (fun _ => rfl), (fun _ => rfl), p18, p19, p20, p21, p22, p23, p24, p25, p26, p27⟩
    · obtain rfl := p15 (hdep 15 (by kernel_rfl))
      obtain rfl := p17 (hdep 17 (by kernel_rfl))
      simp only [puts, List.foldl_cons, List.foldl_nil, List.setIfInBounds_toArray, List.set_cons_zero, List.set_cons_succ]
      refine any_op (o := { dst := some 62, op := Op.move (Operand.tmp 61), type := 4, pos := "more.go:40", after := #[{ on := 17, ground := Ground.data }, { on := 15, ground := Ground.chain }], guard := none }) rfl rfl ?_
      go_wp2_with fail
      refine hK.out _ _ ?_
      exact ⟨vr0, vr1, vr2, vr3, vr4, vr5, vr6, vr7, vr8, vr9, vr10, vr11, vr12, vr13, vr14, .bool true, vr16, .bool false, .bool false, vr19, vr20, vr21, vr22, vr23, vr24, vr25, vr26, vr27, (by simp only [puts, List.foldl_cons, List.foldl_nil, List.setIfInBounds_toArray, List.set_cons_zero, List.set_cons_succ]), hB, p0, p1, p2, p3, p4, p5, p6, p7, p8, p9, p10, p11, p12, p13, p14, (fun _ => rfl), p16, (fun _ => rfl), (fun _ => rfl), p19, p20, p21, p22, p23, p24, p25, p26, p27⟩
    · obtain rfl := p18 (hdep 18 (by kernel_rfl))
      simp only [puts, List.foldl_cons, List.foldl_nil, List.setIfInBounds_toArray, List.set_cons_zero, List.set_cons_succ]
      have c0 := V.c0 0 rfl
      have c1 := V.c1 0 rfl
      have c2 := V.c2 0 rfl
      refine any_opg (o := { dst := some 63, op := Op.load 28 (Operand.tmp 9), type := 28, pos := "more.go:40", after := #[{ on := 18, ground := Ground.guard }], guard := some (18, false) }) rfl (by kernel_rfl) ?_
      go_wp2_with fail
      refine hK.out _ _ ?_
      exact ⟨vr0, vr1, vr2, vr3, vr4, vr5, vr6, vr7, vr8, vr9, vr10, vr11, vr12, vr13, vr14, vr15, vr16, vr17, .bool false, .agg #[.bool bM, .slice pM nM cM, .slice qM mM dM], vr20, vr21, vr22, vr23, vr24, vr25, vr26, vr27, (by simp only [puts, List.foldl_cons, List.foldl_nil, List.setIfInBounds_toArray, List.set_cons_zero, List.set_cons_succ]), hB, p0, p1, p2, p3, p4, p5, p6, p7, p8, p9, p10, p11, p12, p13, p14, p15, p16, p17, (fun _ => rfl), (fun _ => rfl), p20, p21, p22, p23, p24, p25, p26, p27⟩
    · obtain rfl := p18 (hdep 18 (by kernel_rfl))
      obtain rfl := p19 (hdep 19 (by kernel_rfl))
      simp only [puts, List.foldl_cons, List.foldl_nil, List.setIfInBounds_toArray, List.set_cons_zero, List.set_cons_succ]
      refine any_opg (o := { dst := some 64, op := Op.call { callee := Callee.value (Operand.func 24), args := #[Operand.tmp 63], argTypes := #[28] }, type := 28, pos := "more.go:40", after := #[{ on := 19, ground := Ground.data }, { on := 18, ground := Ground.chain }, { on := 18, ground := Ground.guard }], guard := some (18, false) }) rfl (by kernel_rfl) ?_
      have hC := Lib.hid (HFl.out W _ (V.rat 0 _ _ rfl))
      go_simp
      refine hC.out.mono ?_
      rintro e W2 ⟨u, rfl, hn, hb⟩
      refine hK.out _ _ ?_
      exact ⟨vr0, vr1, vr2, vr3, vr4, vr5, vr6, vr7, vr8, vr9, vr10, vr11, vr12, vr13, vr14, vr15, vr16, vr17, .bool false, .agg #[.bool bM, .slice pM nM cM, .slice qM mM dM], u, vr21, vr22, vr23, vr24, vr25, vr26, vr27, (by simp only [puts, List.foldl_cons, List.foldl_nil, List.setIfInBounds_toArray, List.set_cons_zero, List.set_cons_succ]), hB.trans (hb.mono hB.size), p0, p1, p2, p3, p4, p5, p6, p7, p8, p9, p10, (fun h => (p11 h).below hb (Nat.le_refl _)), p12, p13, (fun h => (p14 h).below hb (Nat.le_refl _)), p15, p16, p17, (fun _ => rfl), (fun _ => rfl), (fun _ => hn), p21, p22, (fun h => (p23 h).below hb (Nat.le_refl _)), (fun h => (p24 h).below hb (Nat.le_refl _)), p25, p26, p27⟩
    · obtain rfl := p18 (hdep 18 (by kernel_rfl))
      simp only [puts, List.foldl_cons, List.foldl_nil, List.setIfInBounds_toArray, List.set_cons_zero, List.set_cons_succ]
      refine any_opg (o := { dst := some 65, op := Op.build 28 #[], type := 28, pos := "more.go:40", after := #[{ on := 18, ground := Ground.guard }], guard := some (18, false) }) rfl (by kernel_rfl) ?_
      go_wp2_with fail
      refine hK.out _ _ ?_
      exact ⟨vr0, vr1, vr2, vr3, vr4, vr5, vr6, vr7, vr8, vr9, vr10, vr11, vr12, vr13, vr14, vr15, vr16, vr17, .bool false, vr19, vr20, .agg #[.bool false, .slice none 0 0, .slice none 0 0], vr22, vr23, vr24, vr25, vr26, vr27, (by simp only [puts, List.foldl_cons, List.foldl_nil, List.setIfInBounds_toArray, List.set_cons_zero, List.set_cons_succ]), hB, p0, p1, p2, p3, p4, p5, p6, p7, p8, p9, p10, p11, p12, p13, p14, p15, p16, p17, (fun _ => rfl), p19, p20, (fun _ => rfl), p22, p23, p24, p25, p26, p27⟩
    · obtain rfl := p18 (hdep 18 (by kernel_rfl))
      simp only [puts, List.foldl_cons, List.foldl_nil, List.setIfInBounds_toArray, List.set_cons_zero, List.set_cons_succ]
      have c0 := V.c0 4 rfl
      have c1 := V.c1 4 rfl
      have c2 := V.c2 4 rfl
      refine any_opg (o := { dst := some 66, op := Op.load 28 (Operand.tmp 3), type := 28, pos := "more.go:40", after := #[{ on := 18, ground := Ground.guard }], guard := some (18, false) }) rfl (by kernel_rfl) ?_
      go_wp2_with fail
      refine hK.out _ _ ?_
      exact ⟨vr0, vr1, vr2, vr3, vr4, vr5, vr6, vr7, vr8, vr9, vr10, vr11, vr12, vr13, vr14, vr15, vr16, vr17, .bool false, vr19, vr20, vr21, .agg #[.bool bA, .slice pA nA cA, .slice qA mA dA], vr23, vr24, vr25, vr26, vr27, (by simp only [puts, List.foldl_cons, List.foldl_nil, List.setIfInBounds_toArray, List.set_cons_zero, List.set_cons_succ]), hB, p0, p1, p2, p3, p4, p5, p6, p7, p8, p9, p10, p11, p12, p13, p14, p15, p16, p17, (fun _ => rfl), p19, p20, p21, (fun _ => rfl), p23, p24, p25, p26, p27⟩
    · obtain rfl := p18 (hdep 18 (by kernel_rfl))
      have n20 := p20 (hdep 20 (by kernel_rfl))
      obtain rfl := p22 (hdep 22 (by kernel_rfl))
      simp only [puts, List.foldl_cons, List.foldl_nil, List.setIfInBounds_toArray, List.set_cons_zero, List.set_cons_succ]
      refine any_opg (o := { dst := some 67, op := Op.call { callee := Callee.value (Operand.func 25), args := #[Operand.tmp 66], argTypes := #[28] }, type := 28, pos := "more.go:40", after := #[{ on := 22, ground := Ground.data }, { on := 20, ground := Ground.chain }, { on := 18, ground := Ground.guard }], guard := some (18, false) }) rfl (by kernel_rfl) ?_
      have hC := Lib.hid (HCe.out W _ (V.rat 4 _ _ rfl))
      go_simp
      refine hC.out.mono ?_
      rintro e W2 ⟨u, rfl, hn, hb⟩
      refine hK.out _ _ ?_
      exact ⟨vr0, vr1, vr2, vr3, vr4, vr5, vr6, vr7, vr8, vr9, vr10, vr11, vr12, vr13, vr14, vr15, vr16, vr17, .bool false, vr19, vr20, vr21, .agg #[.bool bA, .slice pA nA cA, .slice qA mA dA], u, vr24, vr25, vr26, vr27, (by simp only [puts, List.foldl_cons, List.foldl_nil, List.setIfInBounds_toArray, List.set_cons_zero, List.set_cons_succ]), hB.trans (hb.mono hB.size), p0, p1, p2, p3, p4, p5, p6, p7, p8, p9, p10, (fun h => (p11 h).below hb (Nat.le_refl _)), p12, p13, (fun h => (p14 h).below hb (Nat.le_refl _)), p15, p16, p17, (fun _ => rfl), p19, (fun _ => n20.below hb (Nat.le_refl _)), p21, (fun _ => rfl), (fun _ => hn), (fun h => (p24 h).below hb (Nat.le_refl _)), p25, p26, p27⟩
    · obtain rfl := p18 (hdep 18 (by kernel_rfl))
      obtain rfl := p21 (hdep 21 (by kernel_rfl))
      have n23 := p23 (hdep 23 (by kernel_rfl))
      simp only [puts, List.foldl_cons, List.foldl_nil, List.setIfInBounds_toArray, List.set_cons_zero, List.set_cons_succ]
      refine any_opg (o := { dst := some 68, op := Op.call { callee := Callee.value (Operand.func 20), args := #[Operand.tmp 65, Operand.tmp 67], argTypes := #[28, 28] }, type := 28, pos := "more.go:40", after := #[{ on := 21, ground := Ground.data }, { on := 23, ground := Ground.data }, { on := 23, ground := Ground.chain }, { on := 18, ground := Ground.guard }], guard := some (18, false) }) rfl (by kernel_rfl) ?_
      have hC := Lib.hid (HS5.out W _ _ (isR_zero W) n23 (HTB.out W V.bel))
      go_simp
      refine hC.out.mono ?_
      rintro e W2 ⟨u, rfl, hn, hb⟩
      refine hK.out _ _ ?_
      exact ⟨vr0, vr1, vr2, vr3, vr4, vr5, vr6, vr7, vr8, vr9, vr10, vr11, vr12, vr13, vr14, vr15, vr16, vr17, .bool false, vr19, vr20, .agg #[.bool false, .slice none 0 0, .slice none 0 0], vr22, vr23, u, vr25, vr26, vr27, (by simp only [puts, List.foldl_cons, List.foldl_nil, List.setIfInBounds_toArray, List.set_cons_zero, List.set_cons_succ]), hB.trans (hb.mono hB.size), p0, p1, p2, p3, p4, p5, p6, p7, p8, p9, p10, (fun h => (p11 h).below hb (Nat.le_refl _)), p12, p13, (fun h => (p14 h).below hb (Nat.le_refl _)), p15, p16, p17, (fun _ => rfl), p19, (fun h => (p20 h).below hb (Nat.le_refl _)), (fun _ => rfl), p22, (fun _ => n23.below hb (Nat.le_refl _)), (fun _ => hn), p25, p26, p27⟩
    · obtain rfl := p18 (hdep 18 (by kernel_rfl))
      have n20 := p20 (hdep 20 (by kernel_rfl))
      have n24 := p24 (hdep 24 (by kernel_rfl))
      simp only [puts, List.foldl_cons, List.foldl_nil, List.setIfInBounds_toArray, List.set_cons_zero, List.set_cons_succ]
      refine any_opg (o := { dst := some 69, op := Op.call { callee := Callee.value (Operand.func 15), args := #[Operand.tmp 64, Operand.tmp 68], argTypes := #[28, 28] }, type := 4, pos := "more.go:40", after := #[{ on := 20, ground := Ground.data }, { on := 24, ground := Ground.data }, { on := 24, ground := Ground.chain }, { on := 18, ground := Ground.guard }], guard := some (18, false) }) rfl (by kernel_rfl) ?_
      have hC := Lib.hid (HSb.out W _ _ n20 n24)
      go_simp
      refine hC.out.mono ?_
      rintro e W2 ⟨rfl, hb⟩
      refine hK.out _ _ ?_
      exact ⟨vr0, vr1, vr2, vr3, vr4, vr5, vr6, vr7, vr8, vr9, vr10, vr11, vr12, vr13, vr14, vr15, vr16, vr17, .bool false, vr19, vr20, vr21, vr22, vr23, vr24, .bool true, vr26, vr27, (by simp only [puts, List.foldl_cons, List.foldl_nil, List.setIfInBounds_toArray, List.set_cons_zero, List.set_cons_succ]), hB.trans (hb.mono hB.size), p0, p1, p2, p3, p4, p5, p6, p7, p8, p9, p10, (fun h => (p11 h).below hb (Nat.le_refl _)), p12, p13, (fun h => (p14 h).below hb (Nat.le_refl _)), p15, p16, p17, (fun _ => rfl), p19, (fun _ => n20.below hb (Nat.le_refl _)), p21, p22, (fun h => (p23 h).below hb (Nat.le_refl _)), (fun _ => n24.below hb (Nat.le_refl _)), (fun _ => rfl), p26, p27⟩
    · obtain rfl := p18 (hdep 18 (by kernel_rfl))
      obtain rfl := p25 (hdep 25 (by kernel_rfl))
      simp only [puts, List.foldl_cons, List.foldl_nil, List.setIfInBounds_toArray, List.set_cons_zero, List.set_cons_succ]
      refine any_opg (o := { dst := some 70, op := Op.unOp UnOp.not 4 (Operand.tmp 69), type := 4, pos := "more.go:40", after := #[{ on := 25, ground := Ground.data }, { on := 18, ground := Ground.guard }], guard := some (18, false) }) rfl (by kernel_rfl) ?_
      go_wp2_with fail
      refine hK.out _ _ ?_
      exact ⟨vr0, vr1, vr2, vr3, vr4, vr5, vr6, vr7, vr8, vr9, vr10, vr11, vr12, vr13, vr14, vr15, vr16, vr17, .bool false, vr19, vr20, vr21, vr22, vr23, vr24, .bool true, .bool false, vr27, (by simp only [puts, List.foldl_cons, List.foldl_nil, List.setIfInBounds_toArray, List.set_cons_zero, List.set_cons_succ]), hB, p0, p1, p2, p3, p4, p5, p6, p7, p8, p9, p10, p11, p12, p13, p14, p15, p16, p17, (fun _ => rfl), p19, p20, p21, p22, p23, p24, (fun _ => rfl), (fun _ => rfl), p27⟩
    · obtain rfl := p18 (hdep 18 (by kernel_rfl))
      obtain rfl := p26 (hdep 26 (by kernel_rfl))
      simp only [puts, List.foldl_cons, List.foldl_nil, List.setIfInBounds_toArray, List.set_cons_zero, List.set_cons_succ]
      refine any_op (o := { dst := some 71, op := Op.pick (Operand.tmp 62) (Operand.const (Value.bool true)) (Operand.tmp 70), type := 4, pos := "more.go:40", after := #[{ on := 18, ground := Ground.data }, { on := 26, ground := Ground.data }], guard := none }) rfl rfl ?_
      go_wp2_with fail
      refine hK.out _ _ ?_
      exact ⟨vr0, vr1, vr2, vr3, vr4, vr5, vr6, vr7, vr8, vr9, vr10, vr11, vr12, vr13, vr14, vr15, vr16, vr17, .bool false, vr19, vr20, vr21, vr22, vr23, vr24, vr25, .bool false, .bool false, (by simp only [puts, List.foldl_cons, List.foldl_nil, List.setIfInBounds_toArray, List.set_cons_zero, List.set_cons_succ]), hB, p0, p1, p2, p3, p4, p5, p6, p7, p8, p9, p10, p11, p12, p13, p14, p15, p16, p17, (fun _ => rfl), p19, p20, p21, p22, p23, p24, p25, (fun _ => rfl), (fun _ => rfl)⟩
  · intro dj a W hd hI
    obtain ⟨vr0, vr1, vr2, vr3, vr4, vr5, vr6, vr7, vr8, vr9, vr10, vr11, vr12, vr13, vr14, vr15, vr16, vr17, vr18, vr19, vr20, vr21, vr22, vr23, vr24, vr25, vr26, vr27, rfl, hB, p0, p1, p2, p3, p4, p5, p6, p7, p8, p9, p10, p11, p12, p13, p14, p15, p16, p17, p18, p19, p20, p21, p22, p23, p24, p25, p26, p27⟩ := hI
    have V := V0.below hB
    obtain rfl := p0 (hd 0 (by omega))
    obtain rfl := p1 (hd 1 (by omega))
    obtain rfl := p2 (hd 2 (by omega))
    obtain rfl := p3 (hd 3 (by omega))
    obtain rfl := p4 (hd 4 (by omega))
    obtain rfl := p5 (hd 5 (by omega))
    obtain rfl := p6 (hd 6 (by omega))
    obtain rfl := p7 (hd 7 (by omega))
    obtain rfl := p8 (hd 8 (by omega))
    obtain rfl := p9 (hd 9 (by omega))
    obtain rfl := p10 (hd 10 (by omega))
    have nr11 := p11 (hd 11 (by omega))
    obtain rfl := p12 (hd 12 (by omega))
    obtain rfl := p13 (hd 13 (by omega))
    have nr14 := p14 (hd 14 (by omega))
    obtain rfl := p15 (hd 15 (by omega))
    obtain rfl := p16 (hd 16 (by omega))
    obtain rfl := p17 (hd 17 (by omega))
    obtain rfl := p18 (hd 18 (by omega))
    obtain rfl := p19 (hd 19 (by omega))
    have nr20 := p20 (hd 20 (by omega))
    obtain rfl := p21 (hd 21 (by omega))
    obtain rfl := p22 (hd 22 (by omega))
    have nr23 := p23 (hd 23 (by omega))
    have nr24 := p24 (hd 24 (by omega))
    obtain rfl := p25 (hd 25 (by omega))
    obtain rfl := p26 (hd 26 (by omega))
    obtain rfl := p27 (hd 27 (by omega))
    simp only [puts, List.foldl_cons, List.foldl_nil, List.setIfInBounds_toArray, List.set_cons_zero, List.set_cons_succ]
    show wpAny Tryz.prog .any _ _ 0 #[true, true, true, true, true, true, true, true, true, true, true, true, true, true, true, true, true, true, true, true, true, true, true, true, true, true, true, true] _ _
    have g0 := V.c0 1 rfl; have g1 := V.c1 1 rfl; have g2 := V.c2 1 rfl
    have h0 := V.c0 3 rfl; have h1 := V.c1 3 rfl; have h2 := V.c2 3 rfl
    refine ⟨by kernel_rfl, ?_⟩
    clear V0 nr11 nr14 nr20 nr23 nr24
    go_wp2_with fail
    refine (HSt.out _ _ _ (V.rat 1 _ _ rfl) (V.rat 3 _ _ rfl)).mono ?_
    rintro e wB ⟨rfl, hb⟩
    have V11 := V.below hb
    clear V g0 g1 g2 h0 h1 h2
    have g0 := V11.c0 4 rfl; have g1 := V11.c1 4 rfl; have g2 := V11.c2 4 rfl
    go_wp2_with fail
    refine (HNa.out _ _ (V11.rat 4 _ _ rfl)).mono ?_
    rintro e wC ⟨rfl, hb⟩
    have V12 := V11.below hb
    clear V11 g0 g1 g2
    have g0 := V12.c0 4 rfl; have g1 := V12.c1 4 rfl; have g2 := V12.c2 4 rfl
    have h0 := V12.c0 2 rfl; have h1 := V12.c1 2 rfl; have h2 := V12.c2 2 rfl
    go_wp2_with fail
    refine (HC2.out _ _ _ (V12.rat 2 _ _ rfl) (V12.rat 4 _ _ rfl)).mono ?_
    rintro e wD ⟨rfl, hb⟩
    have HB := Lib.hid (V12.below hb).bel
    clear V12 g0 g1 g2 h0 h1 h2
    go_wp2_with fail
    go_ret
    exact ⟨rfl, HB.out⟩
end Go.Proofs.YtllmacokhjmdgaaGreatDoor
