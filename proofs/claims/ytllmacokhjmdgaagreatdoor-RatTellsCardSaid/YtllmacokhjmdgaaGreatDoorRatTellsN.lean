/-
 RatTells, where the second fraction is not 0.
-/
import Derived.Test.YtllmacokhjmdgaaGreatDoorRQf
namespace Go.Proofs.YtllmacokhjmdgaaGreatDoor
open Go.RowKit
set_option linter.unusedVariables false
set_option maxRecDepth 100000 in
set_option maxHeartbeats 32000000 in
theorem ratTells.goodN (s t : ByteArray) (w : World) (htab : Tab w) (htb : TabB w) (hs : ¬ (120 : Int) < (s.size : Int)) (ht : ¬ (120 : Int) < (t.size : Int)) (hb0 : ((pq t).getD 0).num.natAbs ≠ 0) :
 Calls Tryz.prog 7 #[.string s, .string t] w fun e w' => e = .returned (.bool true) ∧ Below w.heap.size w w' := by
 have HAl := Lib.hid (alive_r w htab htb)
 have HTB : Hid (∀ W, Below w.heap.size w W → TabB W) := Lib.hid (fun W hb => htb.below hb (Nat.le_refl _))
 have sza : Sz 7 ((pq s).getD 0) := pqd_sz19 (by omega) (by omega)
 have szb : Sz 7 ((pq t).getD 0) := pqd_sz19 (by omega) (by omega)
 have sda : SzD 30 ((pq s).getD 0) := pqd_szd (by omega) (by omega)
 have sdb : SzD 30 ((pq t).getD 0) := pqd_szd (by omega) (by omega)
 have HPA : Hid (∀ W, TabB W → Calls Tryz.prog 12 #[.string s] W fun e w' => ∃ b x y z x' y' z', e = .returned (.tuple #[.agg #[.bool b, .slice x y z, .slice x' y' z'], .int .i64 (oc (pq s))]) ∧ IsR w' (.agg #[.bool b, .slice x y z, .slice x' y' z']) ((pq s).getD 0) ∧ Below W.heap.size W w') := Lib.hid (fun W h => parse_r s W (by omega) h)
 have HPB : Hid (∀ W, TabB W → Calls Tryz.prog 12 #[.string t] W fun e w' => ∃ b x y z x' y' z', e = .returned (.tuple #[.agg #[.bool b, .slice x y z, .slice x' y' z'], .int .i64 (oc (pq t))]) ∧ IsR w' (.agg #[.bool b, .slice x y z, .slice x' y' z']) ((pq t).getD 0) ∧ Below W.heap.size W w') := Lib.hid (fun W h => parse_r t W (by omega) h)
 have HPX : Hid (∀ W, Calls Tryz.prog 34 #[.string s] W fun e w' => ∃ v, e = .returned (.tuple #[v, .int .i64 (oc (pq s))]) ∧ RQ w' v ((pq s).getD 0) ∧ Below W.heap.size W w') := Lib.hid (fun W => rratparse_any s W (by omega))
 have HPY : Hid (∀ W, Calls Tryz.prog 34 #[.string t] W fun e w' => ∃ v, e = .returned (.tuple #[v, .int .i64 (oc (pq t))]) ∧ RQ w' v ((pq t).getD 0) ∧ Below W.heap.size W w') := Lib.hid (fun W => rratparse_any t W (by omega))
 obtain ⟨qa, hqa⟩ : ∃ q, (pq s).getD 0 = q := ⟨_, rfl⟩
 obtain ⟨qb, hqb⟩ : ∃ q, (pq t).getD 0 = q := ⟨_, rfl⟩
 obtain ⟨ka, hka⟩ : ∃ k, oc (pq s) = k := ⟨_, rfl⟩
 obtain ⟨kb, hkb⟩ : ∃ k, oc (pq t) = k := ⟨_, rfl⟩
 rw [hqa] at sza sda
 rw [hqb] at szb sdb hb0
 simp only [hqa, hka] at HPA HPX
 simp only [hqb, hkb] at HPB HPY
 clear hqa hqb hka hkb
 have szs := sz_add sza szb
 have szd := sz_sub sza szb
 have szm := sz_mul sza szb
 have szf := sz_floor sza (by omega)
 have szr := sz_rnd sza (by omega)
 have szce : Sz 9 ((qa.ceil : Int) : Rat) := by
  rw [Rat.ceil_eq_neg_floor_neg, Rat.intCast_neg]
  exact sz_neg ((sz_floor (sz_neg sza) (by omega)).mono (by omega))
 have sds := szd_add sda sdb
 have sdn := szd_neg sdb
 have sdd : SzD 61 (qa - qb) := by
  rw [Rat.sub_eq_add_neg]
  exact (szd_add sda sdn).mono (by omega)
 have sdm : SzD 60 (qa * qb) := szd_mul sda sdb
 have sdf := szd_floor sda (by omega)
 have sdce : SzD 32 ((qa.ceil : Int) : Rat) := by
  rw [Rat.ceil_eq_neg_floor_neg, Rat.intCast_neg]
  exact szd_neg ((szd_floor (szd_neg sda) (by omega)).mono (by omega))
 have sdr : SzD 40 ((rndQ qa : Int) : Rat) := (szd_rnd sda).mono (by omega)
 have szq := sz_mul sza (sz_inv szb hb0)
 have sdq : SzD 60 (qa * qb⁻¹) := szd_div sda sdb hb0
 have HSA : Hid (∀ W va vb, Below w.heap.size w W → IsR W va (qa) → RQ W vb (qa) → Calls Tryz.prog 30 #[va, vb] W fun e w' => e = .returned (.bool true) ∧ Below W.heap.size W w') := Lib.hid (fun W va vb hB h1 h2 => same_yes _ va vb W h1 h2 (sza.mono (by omega)) (sda.mono (by omega)) (htab.below hB (Nat.le_refl _)))
 have HSB : Hid (∀ W va vb, Below w.heap.size w W → IsR W va (qb) → RQ W vb (qb) → Calls Tryz.prog 30 #[va, vb] W fun e w' => e = .returned (.bool true) ∧ Below W.heap.size W w') := Lib.hid (fun W va vb hB h1 h2 => same_yes _ va vb W h1 h2 (szb.mono (by omega)) (sdb.mono (by omega)) (htab.below hB (Nat.le_refl _)))
 have HSS : Hid (∀ W va vb, Below w.heap.size w W → IsR W va (qa + qb) → RQ W vb (qa + qb) → Calls Tryz.prog 30 #[va, vb] W fun e w' => e = .returned (.bool true) ∧ Below W.heap.size W w') := Lib.hid (fun W va vb hB h1 h2 => same_yes _ va vb W h1 h2 (szs.mono (by omega)) (sds.mono (by omega)) (htab.below hB (Nat.le_refl _)))
 have HSD : Hid (∀ W va vb, Below w.heap.size w W → IsR W va (qa - qb) → RQ W vb (qa - qb) → Calls Tryz.prog 30 #[va, vb] W fun e w' => e = .returned (.bool true) ∧ Below W.heap.size W w') := Lib.hid (fun W va vb hB h1 h2 => same_yes _ va vb W h1 h2 (szd.mono (by omega)) (sdd.mono (by omega)) (htab.below hB (Nat.le_refl _)))
 have HSM : Hid (∀ W va vb, Below w.heap.size w W → IsR W va (qa * qb) → RQ W vb (qa * qb) → Calls Tryz.prog 30 #[va, vb] W fun e w' => e = .returned (.bool true) ∧ Below W.heap.size W w') := Lib.hid (fun W va vb hB h1 h2 => same_yes _ va vb W h1 h2 (szm.mono (by omega)) (sdm.mono (by omega)) (htab.below hB (Nat.le_refl _)))
 have HSF : Hid (∀ W va vb, Below w.heap.size w W → IsR W va (((qa.floor : Int) : Rat)) → RQ W vb (((qa.floor : Int) : Rat)) → Calls Tryz.prog 30 #[va, vb] W fun e w' => e = .returned (.bool true) ∧ Below W.heap.size W w') := Lib.hid (fun W va vb hB h1 h2 => same_yes _ va vb W h1 h2 (szf.mono (by omega)) (sdf.mono (by omega)) (htab.below hB (Nat.le_refl _)))
 have HSC : Hid (∀ W va vb, Below w.heap.size w W → IsR W va (((qa.ceil : Int) : Rat)) → RQ W vb (((qa.ceil : Int) : Rat)) → Calls Tryz.prog 30 #[va, vb] W fun e w' => e = .returned (.bool true) ∧ Below W.heap.size W w') := Lib.hid (fun W va vb hB h1 h2 => same_yes _ va vb W h1 h2 (szce.mono (by omega)) (sdce.mono (by omega)) (htab.below hB (Nat.le_refl _)))
 have HSR : Hid (∀ W va vb, Below w.heap.size w W → IsR W va (((rndQ qa : Int) : Rat)) → RQ W vb (((rndQ qa : Int) : Rat)) → Calls Tryz.prog 30 #[va, vb] W fun e w' => e = .returned (.bool true) ∧ Below W.heap.size W w') := Lib.hid (fun W va vb hB h1 h2 => same_yes _ va vb W h1 h2 (szr.mono (by omega)) (sdr.mono (by omega)) (htab.below hB (Nat.le_refl _)))
 have HSQ : Hid (∀ W va vb, Below w.heap.size w W → IsR W va (qa * qb⁻¹) → RQ W vb (qa * qb⁻¹) → Calls Tryz.prog 30 #[va, vb] W fun e w' => e = .returned (.bool true) ∧ Below W.heap.size W w') := Lib.hid (fun W va vb hB h1 h2 => same_yes _ va vb W h1 h2 (szq.mono (by omega)) (sdq.mono (by omega)) (htab.below hB (Nat.le_refl _)))
 have HAdd : Hid (∀ W va vb, IsR W va (qa) → IsR W vb (qb) → TabB W → Calls Tryz.prog 28 #[va, vb] W (GaveR (qa + qb) W)) := Lib.hid (fun W va vb h1 h2 ht => addr_any _ _ _ _ va vb W h1 h2 sza szb (by omega) ht)
 have HSub : Hid (∀ W va vb, IsR W va (qa) → IsR W vb (qb) → TabB W → Calls Tryz.prog 20 #[va, vb] W (GaveR (qa - qb) W)) := Lib.hid (fun W va vb h1 h2 ht => subr_any _ _ _ _ va vb W h1 h2 sza szb (by omega) ht)
 have HMul : Hid (∀ W va vb, IsR W va (qa) → IsR W vb (qb) → TabB W → Calls Tryz.prog 27 #[va, vb] W (GaveR (qa * qb) W)) := Lib.hid (fun W va vb h1 h2 ht => mulr_any _ _ _ _ va vb W h1 h2 sza szb (by omega) (by omega) ht)
 have HRAdd : Hid (∀ W va vb, RQ W va (qa) → RQ W vb (qb) → Calls Tryz.prog 38 #[va, vb] W (GaveQ (qa + qb) W)) := Lib.hid (fun W va vb h1 h2 => rratadd_any _ _ va vb W h1 h2 (sda.mono (by omega)) (sdb.mono (by omega)))
 have HRMul : Hid (∀ W va vb, RQ W va (qa) → RQ W vb (qb) → Calls Tryz.prog 40 #[va, vb] W (GaveQ (qa * qb) W)) := Lib.hid (fun W va vb h1 h2 => rratmul_any _ _ va vb W h1 h2 (sda.mono (by omega)) (sdb.mono (by omega)))
 have HRDiv : Hid (∀ W va vb, RQ W va (qa) → RQ W vb (qb) → Calls Tryz.prog 35 #[va, vb] W (GaveQ (qa * qb⁻¹) W)) := Lib.hid (fun W va vb h1 h2 => rratdiv_any _ _ va vb W h1 h2 (sda.mono (by omega)) (sdb.mono (by omega)) hb0)
 have HRSub : Hid (∀ W va vb, RQ W va qa → RQ W vb (-qb) → Calls Tryz.prog 38 #[va, vb] W (GaveQ (qa - qb) W)) := Lib.hid (fun W va vb h1 h2 => by
  rw [Rat.sub_eq_add_neg]
  exact rratadd_any _ _ va vb W h1 h2 (sda.mono (by omega)) (sdn.mono (by omega)))
 have HRMin : Hid (∀ W v, RQ W v qb → Calls Tryz.prog 39 #[v] W (GaveQ (-qb) W)) := Lib.hid (fun W v h => rminus_any _ v W h (sdb.mono (by omega)))
 have HFl : Hid (∀ W v, IsR W v qa → Calls Tryz.prog 24 #[v] W (GaveR ((qa.floor : Int) : Rat) W)) := Lib.hid (fun W v h => floor_any qa v W h (sza.mono (by omega)))
 have HRFl : Hid (∀ W v, RQ W v qa → Calls Tryz.prog 41 #[v] W (GaveQ ((qa.floor : Int) : Rat) W)) := Lib.hid (fun W v h => rfloor_any qa v W h (sda.mono (by omega)))
 have HCe : Hid (∀ W v, IsR W v qa → Calls Tryz.prog 25 #[v] W (GaveR ((qa.ceil : Int) : Rat) W)) := Lib.hid (fun W v h => ceil_any qa v W h (sza.mono (by omega)))
 have HRCe : Hid (∀ W v, RQ W v qa → Calls Tryz.prog 42 #[v] W (GaveQ ((qa.ceil : Int) : Rat) W)) := Lib.hid (fun W v h => rceil_any qa v W h (sda.mono (by omega)))
 have HRo : Hid (∀ W v, IsR W v qa → Calls Tryz.prog 19 #[v] W (GaveR ((rndQ qa : Int) : Rat) W)) := Lib.hid (fun W v h => round_any qa v W h (sza.mono (by omega)))
 have HRRo : Hid (∀ W v, RQ W v qa → Calls Tryz.prog 43 #[v] W (GaveQ ((rndQ qa : Int) : Rat) W)) := Lib.hid (fun W v h => rround_any qa v W h (sda.mono (by omega)))
 have HCm : Hid (∀ W va vb, IsR W va qa → IsR W vb qb → Calls Tryz.prog 23 #[va, vb] W fun e w' => e = .returned (.int .i64 (cmpQ qa qb)) ∧ Below W.heap.size W w') := Lib.hid (fun W va vb h1 h2 => cmpr_any _ _ va vb W h1 h2 (sza.mono (by omega)) (szb.mono (by omega)))
 have HRCm : Hid (∀ W va vb, RQ W va qa → RQ W vb qb → Calls Tryz.prog 37 #[va, vb] W fun e w' => e = .returned (.int .i64 (cmpQ qa qb)) ∧ Below W.heap.size W w') := Lib.hid (fun W va vb h1 h2 => rratcmp_any _ _ va vb W h1 h2 (sda.mono (by omega)) (sdb.mono (by omega)))
 have HSa : Hid (∀ W va vb, IsR W va qa → IsR W vb qb → Calls Tryz.prog 15 #[va, vb] W fun e w' => e = .returned (.bool (decide (cmpQ qa qb = 0))) ∧ Below W.heap.size W w') := Lib.hid (fun W va vb h1 h2 => by
  have := same_any _ _ va vb W h1 h2 (sza.mono (by omega)) (szb.mono (by omega))
  rwa [show decide (qa = qb) = decide (cmpQ qa qb = 0) from decide_eq_decide.2 cmpQ_zero.symm] at this)
 have HWh : Hid (∀ W v, IsR W v qa → Calls Tryz.prog 22 #[v] W fun e w' => e = .returned (.bool (decide (qa.den = 1))) ∧ Below W.heap.size W w') := Lib.hid (fun W v h => whole_any _ v W h (sza.mono (by omega) (k := 100)).2)
 have HNg : Hid (∀ W v, IsR W v qa → Calls Tryz.prog 21 #[v] W fun e w' => e = .returned (.bool (decide (qa.num < 0))) ∧ Below W.heap.size W w') := Lib.hid (fun W v h => neg_any _ v W h)
 have HNu : Hid (∀ W v, IsR W v qa → Calls Tryz.prog 17 #[v] W (GaveV qa.num.natAbs W)) := Lib.hid (fun W v h => num_any _ v W h (sza.mono (by omega) (k := 100)).1)
 have HDe : Hid (∀ W v, IsR W v qa → Calls Tryz.prog 18 #[v] W (GaveV qa.den W)) := Lib.hid (fun W v h => den_any _ v W h (sza.mono (by omega) (k := 100)).2)
 have HBi : Hid (∀ W v, IsR W v qa → Calls Tryz.prog 44 #[v] W fun e w' => e = .returned (.bool false) ∧ Below W.heap.size W w') := Lib.hid (fun W v h => big_any _ v W h (sza.mono (by omega)))
 have HTN : Hid (∀ N W v, Below w.heap.size w W → IsN W v N → Calls Tryz.prog 14 #[v] W fun e w' => e = .returned (.string (dg N)) ∧ Below W.heap.size W w') := Lib.hid (fun N W v hB h => text_any N v W h (htab.below hB (Nat.le_refl _)))
 have HRT : Hid (∀ N W v, RN W v N → N < 10000 ^ 900 → Calls Tryz.prog 36 #[v] W fun e w' => e = .returned (.string (dg N)) ∧ Below W.heap.size W w') := Lib.hid (fun N W v h hN => rtext_any N v W h (pow_up 900 9000 hN (by omega)))
 have hone : (dg qa.den = ⟨#[49]⟩) ↔ qa.den = 1 := dg_onez
 have HA9 := Lib.hid (And.intro (sda.mono (k := 900) (by omega)).1 (sda.mono (k := 900) (by omega)).2)
 have HB9 := Lib.hid (And.intro (sdb.mono (k := 900) (by omega)).1 (sdb.mono (k := 900) (by omega)).2)
 have HB0 := Lib.hid hb0
 have HDiv : Hid (∀ W va vb, IsR W va qa → IsR W vb qb → TabB W → Calls Tryz.prog 26 #[va, vb] W fun e w' => ∃ v, e = .returned (.tuple #[v, .int .i64 0]) ∧ IsR w' v (qa * qb⁻¹) ∧ Below W.heap.size W w') := Lib.hid (fun W va vb h1 h2 ht => divr_any _ _ _ _ va vb W h1 h2 sza szb (by omega) (by omega) hb0 ht)
 obtain ⟨QQ, hQQ⟩ : ∃ R, qa * qb⁻¹ = R := ⟨_, rfl⟩
 simp only [hQQ] at HDiv HRDiv HSQ
 obtain ⟨FL, hFL⟩ : ∃ R, ((qa.floor : Int) : Rat) = R := ⟨_, rfl⟩
 simp only [hFL] at HFl HRFl HSF
 obtain ⟨CE, hCE⟩ : ∃ R, ((qa.ceil : Int) : Rat) = R := ⟨_, rfl⟩
 simp only [hCE] at HCe HRCe HSC
 obtain ⟨RO, hRO⟩ : ∃ R, ((rndQ qa : Int) : Rat) = R := ⟨_, rfl⟩
 simp only [hRO] at HRo HRRo HSR
 obtain ⟨SS, hSS⟩ : ∃ R, qa + qb = R := ⟨_, rfl⟩
 simp only [hSS] at HAdd HRAdd HSS
 obtain ⟨DD, hDD⟩ : ∃ R, qa - qb = R := ⟨_, rfl⟩
 simp only [hDD] at HSub HRSub HSD
 obtain ⟨MM, hMM⟩ : ∃ R, qa * qb = R := ⟨_, rfl⟩
 simp only [hMM] at HMul HRMul HSM
 obtain ⟨NB, hNB⟩ : ∃ R, -qb = R := ⟨_, rfl⟩
 simp only [hNB] at HRSub HRMin
 obtain ⟨CC, hCC⟩ : ∃ c, cmpQ qa qb = c := ⟨_, rfl⟩
 simp only [hCC] at HCm HRCm HSa
 obtain ⟨wb, hwb⟩ : ∃ z, decide (qa.den = 1) = z := ⟨_, rfl⟩
 simp only [hwb] at HWh
 have hone2 : ((dg qa.den).toList == [49]) = wb := by
  rw [← hwb, ← decide_eq_decide.2 hone, ← list_eqb]
  congr 1
  rw [ByteArray.toList_eq]
 obtain ⟨zs, hzs⟩ : ∃ z, decide (qa.num < 0) = z := ⟨_, rfl⟩
 simp only [hzs] at HNg
 have Hzs := Lib.hid hzs
 have Hone := Lib.hid hone2
 clear sza szb sda sdb szs szd szm szf szr szce sds sdn sdd sdm sdf sdce sdr szq sdq hb0 hone hone2 hCC hwb hzs hQQ hFL hCE hRO hSS hDD hMM hNB
 go_enter Tryz.func7, Tryz.ntmps7
 go_wp2_with fail
 refine HAl.out.mono ?_
 rintro e w1 ⟨rfl, hb1⟩
 have V1 := (Dq.refl w).below hb1
 clear hb1
 go_wp2_with fail
 refine (HPA.out _ (HTB.out _ V1.bel)).mono ?_
 rintro e wA ⟨bA, pA, nA, cA, qA, mA, dA, rfl, rA, hb⟩
 have VA := ((V1.below hb).rcons rA).alloc 28 #[.bool bA, .slice pA nA cA, .slice qA mA dA]
 clear V1 rA hb
 go_wp2_with fail
 refine (HPB.out _ (HTB.out _ VA.bel)).mono ?_
 rintro e wB ⟨bB, pB, nB, cB, qB, mB, dB, rfl, rB, hb⟩
 have VB := ((VA.below hb).rcons rB).alloc 28 #[.bool bB, .slice pB nB cB, .slice qB mB dB]
 clear VA rB hb
 go_wp2_with fail
 refine (HPX.out _).mono ?_
 rintro e wX ⟨vX, rfl, rX, hb⟩
 have VX' := (VB.below hb).qcons rX
 obtain ⟨pX, nX, cX, qX, mX, dX, rfl, nuX, deX⟩ := rX
 rw [Hzs.out] at VX' ⊢
 obtain ⟨bX, hbX⟩ : ∃ z, zs = z := ⟨_, rfl⟩
 rw [hbX] at VX' ⊢
 have VX := ((VX'.cons deX HA9.out.2).cons nuX HA9.out.1).alloc 50 #[.bool bX, .slice pX nX cX, .slice qX mX dX]
 clear VB hb VX' nuX deX
 go_wp2_with fail
 refine (HPY.out _).mono ?_
 rintro e wY ⟨vY, rfl, rY, hb⟩
 have VY' := (VX.below hb).qcons rY
 obtain ⟨pY, nY, cY, qY, mY, dY, rfl, nuY, -⟩ := rY
 obtain ⟨bY, hbY⟩ : ∃ z, decide (qb.num < 0) = z := ⟨_, rfl⟩
 rw [hbY] at VY' ⊢
 have hzY := rn_len nuY
 have VY := VY'.alloc 50 #[.bool bY, .slice pY nY cY, .slice qY mY dY]
 have x0 := VY.c0 1 rfl; have x1 := VY.c1 1 rfl; have x2 := VY.c2 1 rfl
 have y0 := VY.c0 0 rfl; have y1 := VY.c1 0 rfl; have y2 := VY.c2 0 rfl
 have a0 := VY.c0 3 rfl; have a1 := VY.c1 3 rfl; have a2 := VY.c2 3 rfl
 have g0 := VY.c0 2 rfl; have g1 := VY.c1 2 rfl; have g2 := VY.c2 2 rfl
 clear VX hb VY' hbY nuY
 go_wp2_with fail
 refine (HSA.out _ _ _ VY.bel (VY.rat 1 _ _ rfl) (VY.ref 1 _ _ rfl)).mono ?_
 rintro e w5 ⟨rfl, hb⟩
 have V5 := VY.below hb
 clear VY hb
 have x0 := V5.c0 1 rfl; have x1 := V5.c1 1 rfl; have x2 := V5.c2 1 rfl
 have y0 := V5.c0 0 rfl; have y1 := V5.c1 0 rfl; have y2 := V5.c2 0 rfl
 have a0 := V5.c0 3 rfl; have a1 := V5.c1 3 rfl; have a2 := V5.c2 3 rfl
 have g0 := V5.c0 2 rfl; have g1 := V5.c1 2 rfl; have g2 := V5.c2 2 rfl
 go_wp2_with fail
 refine (HSB.out _ _ _ V5.bel (V5.rat 0 _ _ rfl) (V5.ref 0 _ _ rfl)).mono ?_
 rintro e w6 ⟨rfl, hb⟩
 have V6 := V5.below hb
 clear V5 hb
 have a0 := V6.c0 3 rfl; have a1 := V6.c1 3 rfl; have a2 := V6.c2 3 rfl
 have g0 := V6.c0 2 rfl; have g1 := V6.c1 2 rfl; have g2 := V6.c2 2 rfl
 clear x0 x1 x2 y0 y1 y2
 go_wp2_with fail
 refine (HDiv.out _ _ _ (V6.rat 1 _ _ rfl) (V6.rat 0 _ _ rfl) (HTB.out _ V6.bel)).mono ?_
 rintro e wD ⟨vQ, rfl, rQ, hb⟩
 have V7' := (V6.below hb).rcons rQ
 obtain ⟨pQ, nQ, cQ, qQ, mQ, dQ, rfl, -, -⟩ := rQ
 obtain ⟨bQ, hbQ⟩ : ∃ z, decide (QQ.num < 0) = z := ⟨_, rfl⟩
 rw [hbQ] at V7' ⊢
 have V7 := V7'.alloc 28 #[.bool bQ, .slice pQ nQ cQ, .slice qQ mQ dQ]
 have hnY : 0 < nY := by
  have : nY ≠ 0 := fun e => HB0.out (hzY.1 e)
  omega
 clear V6 hb a0 a1 a2 g0 g1 g2 V7' hbQ hzY
 obtain ⟨kA, hkA⟩ : ∃ b, wA.heap.size = b := ⟨_, rfl⟩
 obtain ⟨kB, hkB⟩ : ∃ b, wB.heap.size = b := ⟨_, rfl⟩
 obtain ⟨kX, hkX⟩ : ∃ b, wX.heap.size = b := ⟨_, rfl⟩
 obtain ⟨kY, hkY⟩ : ∃ b, wY.heap.size = b := ⟨_, rfl⟩
 obtain ⟨kQ, hkQ⟩ : ∃ b, wD.heap.size = b := ⟨_, rfl⟩
 obtain ⟨W0, hW0⟩ : ∃ W0, wD.alloc (.cells #[.bool bQ, .slice pQ nQ cQ, .slice qQ mQ dQ] 28) = W0 := ⟨_, rfl⟩
 rw [hW0] at V7
 simp only [hkA, hkB, hkX, hkY, hkQ] at V7
 have HW0 := Lib.hid hW0; have HkA := Lib.hid hkA; have HkB := Lib.hid hkB; have HkX := Lib.hid hkX; have HkY := Lib.hid hkY; have HkQ := Lib.hid hkQ
 clear hW0 hkA hkB hkX hkY hkQ
 have HS : Hid (∀ l q_ r W, Dq w [(kQ, 28, #[.bool bQ, .slice pQ nQ cQ, .slice qQ mQ dQ]), (kY, 50, #[.bool bY, .slice pY nY cY, .slice qY mY dY]), (kX, 50, #[.bool bX, .slice pX nX cX, .slice qX mX dX]), (kB, 28, #[.bool bB, .slice pB nB cB, .slice qB mB dB]), (kA, 28, #[.bool bA, .slice pA nA cA, .slice qA mA dA])] l q_ r W → W.cell? ⟨kA, 0, none⟩ = some (.bool bA) ∧ W.cell? ⟨kA, 1, none⟩ = some (.slice pA nA cA) ∧ W.cell? ⟨kA, 2, none⟩ = some (.slice qA mA dA) ∧ W.cell? ⟨kB, 0, none⟩ = some (.bool bB) ∧ W.cell? ⟨kB, 1, none⟩ = some (.slice pB nB cB) ∧ W.cell? ⟨kB, 2, none⟩ = some (.slice qB mB dB) ∧ W.cell? ⟨kX, 0, none⟩ = some (.bool bX) ∧ W.cell? ⟨kX, 1, none⟩ = some (.slice pX nX cX) ∧ W.cell? ⟨kX, 2, none⟩ = some (.slice qX mX dX) ∧ W.cell? ⟨kY, 0, none⟩ = some (.bool bY) ∧ W.cell? ⟨kY, 1, none⟩ = some (.slice pY nY cY) ∧ W.cell? ⟨kY, 2, none⟩ = some (.slice qY mY dY) ∧ W.cell? ⟨kQ, 0, none⟩ = some (.bool bQ) ∧ W.cell? ⟨kQ, 1, none⟩ = some (.slice pQ nQ cQ) ∧ W.cell? ⟨kQ, 2, none⟩ = some (.slice qQ mQ dQ)) := Lib.hid (fun l q_ r W h => ⟨h.c0 4 rfl, h.c1 4 rfl, h.c2 4 rfl, h.c0 3 rfl, h.c1 3 rfl, h.c2 3 rfl, h.c0 2 rfl, h.c1 2 rfl, h.c2 2 rfl, h.c0 1 rfl, h.c1 1 rfl, h.c2 1 rfl, h.c0 0 rfl, h.c1 0 rfl, h.c2 0 rfl⟩)
 go_wp2_with fail
 simp only [HkA.out, HkB.out, HkX.out, HkY.out, HkQ.out, HW0.out]
 have V0 := V7.drew
 clear V7
 refine wp_region_held_drew (S := (fun w' => w'.cell? ⟨kA, 0, none⟩ = some (.bool bA) ∧ w'.cell? ⟨kA, 1, none⟩ = some (.slice pA nA cA) ∧ w'.cell? ⟨kA, 2, none⟩ = some (.slice qA mA dA) ∧ w'.cell? ⟨kB, 0, none⟩ = some (.bool bB) ∧ w'.cell? ⟨kB, 1, none⟩ = some (.slice pB nB cB) ∧ w'.cell? ⟨kB, 2, none⟩ = some (.slice qB mB dB) ∧ w'.cell? ⟨kX, 0, none⟩ = some (.bool bX) ∧ w'.cell? ⟨kX, 1, none⟩ = some (.slice pX nX cX) ∧ w'.cell? ⟨kX, 2, none⟩ = some (.slice qX mX dX) ∧ w'.cell? ⟨kY, 0, none⟩ = some (.bool bY) ∧ w'.cell? ⟨kY, 1, none⟩ = some (.slice pY nY cY) ∧ w'.cell? ⟨kY, 2, none⟩ = some (.slice qY mY dY) ∧ w'.cell? ⟨kQ, 0, none⟩ = some (.bool bQ) ∧ w'.cell? ⟨kQ, 1, none⟩ = some (.slice pQ nQ cQ) ∧ w'.cell? ⟨kQ, 2, none⟩ = some (.slice qQ mQ dQ))) (by as_aux_lemma => kernel_rfl) ?_ (fun hHeld => ?_)
 · exact HS.out _ _ _ _ V0
 refine tkA 0 ⟨some 75, .move (.tmp 14), 29, "law.go:35", #[], none⟩ ?_ (Or.inl ⟨by rfl, ?_⟩) ?_
 rotate_left
 · intro w hSw; (try dsimp only at hSw); go_simp; (try with_reducible rfl)
 try simp only [las]
 refine tkA 1 ⟨some 76, .binOp .eql 29 (.tmp 75) (.const (.int .i64 0)) 29, 4, "law.go:35", #[⟨0, .data⟩], none⟩ ?_ (Or.inl ⟨by rfl, ?_⟩) ?_
 rotate_left
 · intro w hSw; (try dsimp only at hSw); go_simp; (try with_reducible rfl)
 try simp only [las]
 refine tkA 2 ⟨some 77, .fieldAddr 50 (.tmp 11) 1, 0, "law.go:35", #[], none⟩ ?_ (Or.inl ⟨by rfl, ?_⟩) ?_
 rotate_left
 · intro w hSw; (try dsimp only at hSw); go_simp; (try with_reducible rfl)
 try simp only [las]
 refine tkA 3 ⟨some 78, .load 48 (.tmp 77), 48, "law.go:35", #[⟨2, .data⟩], none⟩ ?_ (Or.inl ⟨by rfl, ?_⟩) ?_
 rotate_left
 · intro w hSw; (try dsimp only at hSw); go_simp; (try with_reducible rfl)
 try simp only [las]
 refine tkA 4 ⟨some 79, .call ⟨.builtin .len, #[.tmp 78], #[48]⟩, 3, "law.go:35", #[⟨3, .data⟩], none⟩ ?_ (Or.inl ⟨by rfl, ?_⟩) ?_
 rotate_left
 · intro w hSw; (try dsimp only at hSw); go_simp; (try with_reducible rfl)
 try simp only [las]
 refine tkA 5 ⟨some 80, .binOp .gtr 3 (.tmp 79) (.const (.int .i64 0)) 3, 4, "law.go:35", #[⟨4, .data⟩], none⟩ ?_ (Or.inl ⟨by rfl, ?_⟩) ?_
 rotate_left
 · intro w hSw; (try dsimp only at hSw); go_simp; (try with_reducible rfl)
 try simp only [las]
 refine tkA 6 ⟨some 81, .binOp .neq 4 (.tmp 76) (.tmp 80) 4, 4, "law.go:35", #[⟨1, .data⟩, ⟨5, .data⟩], none⟩ ?_ (Or.inl ⟨by rfl, ?_⟩) ?_
 rotate_left
 · intro w hSw; (try dsimp only at hSw); go_simp; (try with_reducible rfl)
 try simp only [las]
 refine tkA 7 ⟨some 82, .move (.tmp 81), 4, "law.go:35", #[⟨6, .data⟩], none⟩ ?_ (Or.inl ⟨by rfl, ?_⟩) ?_
 rotate_left
 · intro w hSw; (try dsimp only at hSw); go_simp; (try with_reducible rfl)
 try simp only [las]
 refine tkA 8 ⟨some 83, .move (.tmp 14), 29, "law.go:35", #[⟨7, .guard⟩], some (7, false)⟩ ?_ (Or.inl ⟨by rfl, ?_⟩) ?_
 rotate_left
 · intro w hSw; (try dsimp only at hSw); go_simp; (try with_reducible rfl)
 try simp only [las]
 refine tkA 9 ⟨some 84, .binOp .neq 29 (.tmp 83) (.const (.int .i64 0)) 29, 4, "law.go:35", #[⟨8, .data⟩, ⟨7, .guard⟩], some (7, false)⟩ ?_ (Or.inl ⟨by rfl, ?_⟩) ?_
 rotate_left
 · intro w hSw; (try dsimp only at hSw); go_simp; (try with_reducible rfl)
 try simp only [las]
 refine tkA 10 ⟨some 85, .move (.tmp 84), 4, "law.go:35", #[⟨9, .data⟩, ⟨7, .chain⟩, ⟨7, .guard⟩], some (7, false)⟩ ?_ (Or.inl ⟨by rfl, ?_⟩) ?_
 rotate_left
 · intro w hSw; (try dsimp only at hSw); go_simp; (try with_reducible rfl)
 try simp only [las]
 refine tkA 11 ⟨some 86, .move (.tmp 14), 29, "law.go:35", #[⟨10, .guard⟩], some (10, true)⟩ (undef) (Or.inr ⟨by rfl, rfl⟩) ?_
 try simp only [las]
 refine tkA 12 ⟨some 87, .binOp .neq 29 (.tmp 86) (.const (.int .i64 4)) 29, 4, "law.go:35", #[⟨11, .data⟩, ⟨10, .guard⟩], some (10, true)⟩ (undef) (Or.inr ⟨by rfl, rfl⟩) ?_
 try simp only [las]
 refine tkA 13 ⟨some 88, .move (.tmp 87), 4, "law.go:35", #[⟨12, .data⟩, ⟨10, .chain⟩, ⟨10, .guard⟩], some (10, true)⟩ (undef) (Or.inr ⟨by rfl, rfl⟩) ?_
 try simp only [las]
 refine tkA 14 ⟨some 89, .load 28 (.tmp 13), 28, "law.go:35", #[⟨13, .guard⟩], some (13, false)⟩ (undef) (Or.inr ⟨by rfl, rfl⟩) ?_
 try simp only [las]
 refine tkA 15 ⟨some 90, .call ⟨.value (.func 13), #[.tmp 89], #[28]⟩, 9, "law.go:35", #[⟨14, .data⟩, ⟨13, .chain⟩, ⟨13, .guard⟩], some (13, false)⟩ (undef) (Or.inr ⟨by rfl, rfl⟩) ?_
 try simp only [las]
 refine tkA 16 ⟨some 91, .binOp .neq 9 (.tmp 90) (.const (.string { data := #[48] })) 9, 4, "law.go:35", #[⟨15, .data⟩, ⟨13, .guard⟩], some (13, false)⟩ (undef) (Or.inr ⟨by rfl, rfl⟩) ?_
 try simp only [las]
 refine tkA 17 ⟨some 92, .pick (.tmp 88) (.const (.bool true)) (.tmp 91), 4, "law.go:35", #[⟨13, .data⟩, ⟨16, .data⟩, ⟨10, .guard⟩], some (10, true)⟩ (undef) (Or.inr ⟨by rfl, rfl⟩) ?_
 try simp only [las]
 refine tkA 18 ⟨some 93, .pick (.tmp 85) (.tmp 92) (.const (.bool false)), 4, "law.go:35", #[⟨10, .data⟩, ⟨17, .data⟩, ⟨7, .guard⟩], some (7, false)⟩ ?_ (Or.inl ⟨by rfl, ?_⟩) ?_
 rotate_left
 · intro w hSw; (try dsimp only at hSw); go_simp; (try with_reducible rfl)
 try simp only [las]
 refine tkA 19 ⟨some 94, .pick (.tmp 82) (.const (.bool true)) (.tmp 93), 4, "law.go:35", #[⟨7, .data⟩, ⟨18, .data⟩], none⟩ ?_ (Or.inl ⟨by rfl, ?_⟩) ?_
 rotate_left
 · intro w hSw; (try dsimp only at hSw); go_simp; (try with_reducible rfl)
 try simp only [las]
 refine tkA 20 ⟨some 95, .move (.tmp 94), 4, "law.go:35", #[⟨19, .data⟩, ⟨15, .chain⟩], none⟩ ?_ (Or.inl ⟨by rfl, ?_⟩) ?_
 rotate_left
 · intro w hSw; (try dsimp only at hSw); go_simp; (try with_reducible rfl)
 try simp only [las]
 refine tkA 21 ⟨some 96, .move (.tmp 14), 29, "law.go:35", #[⟨20, .guard⟩], some (20, false)⟩ ?_ (Or.inl ⟨by rfl, ?_⟩) ?_
 rotate_left
 · intro w hSw; (try dsimp only at hSw); go_simp; (try with_reducible rfl)
 try simp only [las]
 refine tkA 22 ⟨some 97, .binOp .eql 29 (.tmp 96) (.const (.int .i64 0)) 29, 4, "law.go:35", #[⟨21, .data⟩, ⟨20, .guard⟩], some (20, false)⟩ ?_ (Or.inl ⟨by rfl, ?_⟩) ?_
 rotate_left
 · intro w hSw; (try dsimp only at hSw); go_simp; (try with_reducible rfl)
 try simp only [las]
 refine tkA 23 ⟨some 98, .move (.tmp 97), 4, "law.go:35", #[⟨22, .data⟩, ⟨20, .chain⟩, ⟨20, .guard⟩], some (20, false)⟩ ?_ (Or.inl ⟨by rfl, ?_⟩) ?_
 rotate_left
 · intro w hSw; (try dsimp only at hSw); go_simp; (try with_reducible rfl)
 try simp only [las]
 refine tkA 24 ⟨some 99, .load 28 (.tmp 13), 28, "law.go:35", #[⟨23, .guard⟩], some (23, true)⟩ ?_ (Or.inl ⟨by rfl, ?_⟩) ?_
 rotate_left
 · intro w hSw; (try dsimp only at hSw); go_simp; (try with_reducible rfl)
 try simp only [las]
 refine tkA 25 ⟨some 100, .load 50 (.tmp 9), 50, "law.go:35", #[⟨23, .guard⟩], some (23, true)⟩ ?_ (Or.inl ⟨by rfl, ?_⟩) ?_
 rotate_left
 · intro w hSw; (try dsimp only at hSw); go_simp; (try with_reducible rfl)
 try simp only [las]
 refine tkA 26 ⟨some 101, .load 50 (.tmp 11), 50, "law.go:35", #[⟨23, .guard⟩], some (23, true)⟩ ?_ (Or.inl ⟨by rfl, ?_⟩) ?_
 rotate_left
 · intro w hSw; (try dsimp only at hSw); go_simp; (try with_reducible rfl)
 try simp only [las]
 refine wpAnyH_ready (rs := [27]) (by as_aux_lemma => kernel_rfl) (by simp) ?_
 refine AllReadyH.cons (o := _) rfl (fun K hK => ?_) AllReadyH.nil
 go_simp
 go_at_call 35; refine (HRDiv.out _ _ _ (V0.ref 1 _ _ rfl) (V0.ref 0 _ _ rfl)).mono ?_; rintro e wa27 ⟨v27, rfl, r27, hb⟩; have V_27 := (V0.below hb).qcons r27; clear V0 r27 hb
 refine hK.out _ _ ?_ (fun hHeld => ?_)
 · exact HS.out _ _ _ _ ‹_›
 clear hK K
 try simp only [las]
 refine wpAnyH_ready (rs := [28]) (by as_aux_lemma => kernel_rfl) (by simp) ?_
 refine AllReadyH.cons (o := _) rfl (fun K hK => ?_) AllReadyH.nil
 go_simp
 go_at_call 30; refine (HSQ.out _ _ _ V_27.bel (V_27.rat 0 _ _ rfl) (V_27.ref 0 _ _ rfl)).mono ?_; rintro e wa28 ⟨rfl, hb⟩; have V_28 := V_27.below hb; clear V_27 hb
 refine hK.out _ _ ?_ (fun hHeld => ?_)
 · exact HS.out _ _ _ _ ‹_›
 clear hK K
 try simp only [las]
 refine tkA 29 ⟨some 104, .unOp .not 4 (.tmp 103), 4, "law.go:35", #[⟨28, .data⟩, ⟨23, .guard⟩], some (23, true)⟩ ?_ (Or.inl ⟨by rfl, ?_⟩) ?_
 rotate_left
 · intro w hSw; (try dsimp only at hSw); go_simp; (try with_reducible rfl)
 try simp only [las]
 refine tkA 30 ⟨some 105, .pick (.tmp 98) (.tmp 104) (.const (.bool false)), 4, "law.go:35", #[⟨23, .data⟩, ⟨29, .data⟩, ⟨20, .guard⟩], some (20, false)⟩ ?_ (Or.inl ⟨by rfl, ?_⟩) ?_
 rotate_left
 · intro w hSw; (try dsimp only at hSw); go_simp; (try with_reducible rfl)
 try simp only [las]
 refine tkA 31 ⟨some 106, .pick (.tmp 95) (.const (.bool true)) (.tmp 105), 4, "law.go:35", #[⟨20, .data⟩, ⟨30, .data⟩], none⟩ ?_ (Or.inl ⟨by rfl, ?_⟩) ?_
 rotate_left
 · intro w hSw; (try dsimp only at hSw); go_simp; (try with_reducible rfl)
 try simp only [las]
 refine wpAnyH_done (by as_aux_lemma => kernel_rfl) ?_ _
 have x0 := V_28.c0 2 rfl; have x1 := V_28.c1 2 rfl; have x2 := V_28.c2 2 rfl
 go_wp2_with fail
 refine (HRT.out _ _ _ (V_28.num 1 _ _ rfl).1 HA9.out.2).mono ?_
 rintro e wO ⟨rfl, hb⟩
 have VO := V_28.below hb
 clear V_28 hb x0 x1 x2
 go_wp2_with fail
 rw [Hone.out]
 have V0 := VO.drew
 clear VO
 refine wp_region_held_drew (S := (fun w' => w'.cell? ⟨kA, 0, none⟩ = some (.bool bA) ∧ w'.cell? ⟨kA, 1, none⟩ = some (.slice pA nA cA) ∧ w'.cell? ⟨kA, 2, none⟩ = some (.slice qA mA dA) ∧ w'.cell? ⟨kB, 0, none⟩ = some (.bool bB) ∧ w'.cell? ⟨kB, 1, none⟩ = some (.slice pB nB cB) ∧ w'.cell? ⟨kB, 2, none⟩ = some (.slice qB mB dB) ∧ w'.cell? ⟨kX, 0, none⟩ = some (.bool bX) ∧ w'.cell? ⟨kX, 1, none⟩ = some (.slice pX nX cX) ∧ w'.cell? ⟨kX, 2, none⟩ = some (.slice qX mX dX) ∧ w'.cell? ⟨kY, 0, none⟩ = some (.bool bY) ∧ w'.cell? ⟨kY, 1, none⟩ = some (.slice pY nY cY) ∧ w'.cell? ⟨kY, 2, none⟩ = some (.slice qY mY dY) ∧ w'.cell? ⟨kQ, 0, none⟩ = some (.bool bQ) ∧ w'.cell? ⟨kQ, 1, none⟩ = some (.slice pQ nQ cQ) ∧ w'.cell? ⟨kQ, 2, none⟩ = some (.slice qQ mQ dQ))) (by as_aux_lemma => kernel_rfl) ?_ (fun hHeld => ?_)
 · exact HS.out _ _ _ _ V0
 refine tkA 0 ⟨some 111, .load 28 (.tmp 5), 28, "law.go:39", #[], none⟩ ?_ (Or.inl ⟨by rfl, ?_⟩) ?_
 rotate_left
 · intro w hSw; (try dsimp only at hSw); go_simp; (try with_reducible rfl)
 try simp only [las]
 refine tkA 1 ⟨some 112, .load 28 (.tmp 7), 28, "law.go:39", #[], none⟩ ?_ (Or.inl ⟨by rfl, ?_⟩) ?_
 rotate_left
 · intro w hSw; (try dsimp only at hSw); go_simp; (try with_reducible rfl)
 try simp only [las]
 refine tkA 3 ⟨some 114, .load 50 (.tmp 9), 50, "law.go:39", #[], none⟩ ?_ (Or.inl ⟨by rfl, ?_⟩) ?_
 rotate_left
 · intro w hSw; (try dsimp only at hSw); go_simp; (try with_reducible rfl)
 try simp only [las]
 refine tkA 4 ⟨some 115, .load 50 (.tmp 11), 50, "law.go:39", #[], none⟩ ?_ (Or.inl ⟨by rfl, ?_⟩) ?_
 rotate_left
 · intro w hSw; (try dsimp only at hSw); go_simp; (try with_reducible rfl)
 try simp only [las]
 refine wpAnyH_ready (rs := [2]) (by as_aux_lemma => kernel_rfl) (by simp) ?_
 refine AllReadyH.cons (o := _) rfl (fun K hK => ?_) AllReadyH.nil
 go_simp
 go_at_call 23; refine (HCm.out _ _ _ (V0.rat 2 _ _ rfl) (V0.rat 1 _ _ rfl)).mono ?_; rintro e wa2 ⟨rfl, hb⟩; have V_2 := V0.below hb; clear V0 hb
 refine hK.out _ _ ?_ (fun hHeld => ?_)
 · exact HS.out _ _ _ _ ‹_›
 clear hK K
 try simp only [las]
 refine wpAnyH_ready (rs := [5]) (by as_aux_lemma => kernel_rfl) (by simp) ?_
 refine AllReadyH.cons (o := _) rfl (fun K hK => ?_) AllReadyH.nil
 go_simp
 go_at_call 37; refine (HRCm.out _ _ _ (V_2.ref 2 _ _ rfl) (V_2.ref 1 _ _ rfl)).mono ?_; rintro e wa5 ⟨rfl, hb⟩; have V_5 := V_2.below hb; clear V_2 hb
 refine hK.out _ _ ?_ (fun hHeld => ?_)
 · exact HS.out _ _ _ _ ‹_›
 clear hK K
 try simp only [las]
 refine tkA 6 ⟨some 117, .binOp .eql 3 (.tmp 113) (.tmp 116) 3, 4, "law.go:39", #[⟨2, .data⟩, ⟨5, .data⟩], none⟩ (.bool true) (Or.inl ⟨by rfl, ?_⟩) ?_
 · intro w hSw; (try dsimp only at hSw); go_simp; skip
 try simp only [las]
 refine tkA 7 ⟨some 118, .move (.tmp 117), 4, "law.go:39", #[⟨6, .data⟩, ⟨5, .chain⟩], none⟩ ?_ (Or.inl ⟨by rfl, ?_⟩) ?_
 rotate_left
 · intro w hSw; (try dsimp only at hSw); go_simp; (try with_reducible rfl)
 try simp only [las]
 refine tkA 8 ⟨some 119, .load 28 (.tmp 5), 28, "law.go:39", #[⟨7, .guard⟩], some (7, true)⟩ ?_ (Or.inl ⟨by rfl, ?_⟩) ?_
 rotate_left
 · intro w hSw; (try dsimp only at hSw); go_simp; (try with_reducible rfl)
 try simp only [las]
 refine tkA 9 ⟨some 120, .load 28 (.tmp 7), 28, "law.go:39", #[⟨7, .guard⟩], some (7, true)⟩ ?_ (Or.inl ⟨by rfl, ?_⟩) ?_
 rotate_left
 · intro w hSw; (try dsimp only at hSw); go_simp; (try with_reducible rfl)
 try simp only [las]
 refine tkA 11 ⟨some 122, .load 50 (.tmp 9), 50, "law.go:39", #[⟨7, .guard⟩], some (7, true)⟩ ?_ (Or.inl ⟨by rfl, ?_⟩) ?_
 rotate_left
 · intro w hSw; (try dsimp only at hSw); go_simp; (try with_reducible rfl)
 try simp only [las]
 refine tkA 12 ⟨some 123, .load 50 (.tmp 11), 50, "law.go:39", #[⟨7, .guard⟩], some (7, true)⟩ ?_ (Or.inl ⟨by rfl, ?_⟩) ?_
 rotate_left
 · intro w hSw; (try dsimp only at hSw); go_simp; (try with_reducible rfl)
 try simp only [las]
 refine wpAnyH_ready (rs := [10]) (by as_aux_lemma => kernel_rfl) (by simp) ?_
 refine AllReadyH.cons (o := _) rfl (fun K hK => ?_) AllReadyH.nil
 go_simp
 go_at_call 15; refine (HSa.out _ _ _ (V_5.rat 2 _ _ rfl) (V_5.rat 1 _ _ rfl)).mono ?_; rintro e wa10 ⟨rfl, hb⟩; have V_10 := V_5.below hb; clear V_5 hb
 refine hK.out _ _ ?_ (fun hHeld => ?_)
 · exact HS.out _ _ _ _ ‹_›
 clear hK K
 try simp only [las]
 refine wpAnyH_ready (rs := [13]) (by as_aux_lemma => kernel_rfl) (by simp) ?_
 refine AllReadyH.cons (o := _) rfl (fun K hK => ?_) AllReadyH.nil
 go_simp
 go_at_call 37; refine (HRCm.out _ _ _ (V_10.ref 2 _ _ rfl) (V_10.ref 1 _ _ rfl)).mono ?_; rintro e wa13 ⟨rfl, hb⟩; have V_13 := V_10.below hb; clear V_10 hb
 refine hK.out _ _ ?_ (fun hHeld => ?_)
 · exact HS.out _ _ _ _ ‹_›
 clear hK K
 try simp only [las]
 refine tkA 14 ⟨some 125, .binOp .eql 3 (.tmp 124) (.const (.int .i64 0)) 3, 4, "law.go:39", #[⟨13, .data⟩, ⟨7, .guard⟩], some (7, true)⟩ ?_ (Or.inl ⟨by rfl, ?_⟩) ?_
 rotate_left
 · intro w hSw; (try dsimp only at hSw); go_simp; (try with_reducible rfl)
 try simp only [las]
 refine tkA 15 ⟨some 126, .binOp .eql 4 (.tmp 121) (.tmp 125) 4, 4, "law.go:39", #[⟨10, .data⟩, ⟨14, .data⟩, ⟨7, .guard⟩], some (7, true)⟩ (.bool true) (Or.inl ⟨by rfl, ?_⟩) ?_
 · intro w hSw; (try dsimp only at hSw); go_simp; by_cases hcc : CC = 0 <;> simp [hcc]
 try simp only [las]
 refine tkA 16 ⟨some 127, .pick (.tmp 118) (.tmp 126) (.const (.bool false)), 4, "law.go:39", #[⟨7, .data⟩, ⟨15, .data⟩], none⟩ ?_ (Or.inl ⟨by rfl, ?_⟩) ?_
 rotate_left
 · intro w hSw; (try dsimp only at hSw); go_simp; (try with_reducible rfl)
 try simp only [las]
 refine tkA 17 ⟨some 128, .move (.tmp 127), 4, "law.go:39", #[⟨16, .data⟩, ⟨13, .chain⟩], none⟩ ?_ (Or.inl ⟨by rfl, ?_⟩) ?_
 rotate_left
 · intro w hSw; (try dsimp only at hSw); go_simp; (try with_reducible rfl)
 try simp only [las]
 refine tkA 18 ⟨some 129, .load 28 (.tmp 5), 28, "law.go:39", #[⟨17, .guard⟩], some (17, true)⟩ ?_ (Or.inl ⟨by rfl, ?_⟩) ?_
 rotate_left
 · intro w hSw; (try dsimp only at hSw); go_simp; (try with_reducible rfl)
 try simp only [las]
 refine tkA 19 ⟨some 130, .load 28 (.tmp 7), 28, "law.go:39", #[⟨17, .guard⟩], some (17, true)⟩ ?_ (Or.inl ⟨by rfl, ?_⟩) ?_
 rotate_left
 · intro w hSw; (try dsimp only at hSw); go_simp; (try with_reducible rfl)
 try simp only [las]
 refine tkA 21 ⟨some 132, .load 50 (.tmp 9), 50, "law.go:39", #[⟨17, .guard⟩], some (17, true)⟩ ?_ (Or.inl ⟨by rfl, ?_⟩) ?_
 rotate_left
 · intro w hSw; (try dsimp only at hSw); go_simp; (try with_reducible rfl)
 try simp only [las]
 refine tkA 22 ⟨some 133, .load 50 (.tmp 11), 50, "law.go:39", #[⟨17, .guard⟩], some (17, true)⟩ ?_ (Or.inl ⟨by rfl, ?_⟩) ?_
 rotate_left
 · intro w hSw; (try dsimp only at hSw); go_simp; (try with_reducible rfl)
 try simp only [las]
 refine wpAnyH_ready (rs := [20]) (by as_aux_lemma => kernel_rfl) (by simp) ?_
 refine AllReadyH.cons (o := _) rfl (fun K hK => ?_) AllReadyH.nil
 go_simp
 go_at_call 28; refine (HAdd.out _ _ _ (V_13.rat 2 _ _ rfl) (V_13.rat 1 _ _ rfl) (HTB.out _ V_13.bel)).mono ?_; rintro e wa20 ⟨v20, rfl, r20, hb⟩; have V_20 := (V_13.below hb).rcons r20; clear V_13 r20 hb
 refine hK.out _ _ ?_ (fun hHeld => ?_)
 · exact HS.out _ _ _ _ ‹_›
 clear hK K
 try simp only [las]
 refine wpAnyH_ready (rs := [23]) (by as_aux_lemma => kernel_rfl) (by simp) ?_
 refine AllReadyH.cons (o := _) rfl (fun K hK => ?_) AllReadyH.nil
 go_simp
 go_at_call 38; refine (HRAdd.out _ _ _ (V_20.ref 2 _ _ rfl) (V_20.ref 1 _ _ rfl)).mono ?_; rintro e wa23 ⟨v23, rfl, r23, hb⟩; have V_23 := (V_20.below hb).qcons r23; clear V_20 r23 hb
 refine hK.out _ _ ?_ (fun hHeld => ?_)
 · exact HS.out _ _ _ _ ‹_›
 clear hK K
 try simp only [las]
 refine wpAnyH_ready (rs := [24]) (by as_aux_lemma => kernel_rfl) (by simp) ?_
 refine AllReadyH.cons (o := _) rfl (fun K hK => ?_) AllReadyH.nil
 go_simp
 go_at_call 30; refine (HSS.out _ _ _ V_23.bel (V_23.rat 0 _ _ rfl) (V_23.ref 0 _ _ rfl)).mono ?_; rintro e wa24 ⟨rfl, hb⟩; have V_24 := V_23.below hb; clear V_23 hb
 refine hK.out _ _ ?_ (fun hHeld => ?_)
 · exact HS.out _ _ _ _ ‹_›
 clear hK K
 try simp only [las]
 refine tkA 25 ⟨some 136, .pick (.tmp 128) (.tmp 135) (.const (.bool false)), 4, "law.go:39", #[⟨17, .data⟩, ⟨24, .data⟩], none⟩ ?_ (Or.inl ⟨by rfl, ?_⟩) ?_
 rotate_left
 · intro w hSw; (try dsimp only at hSw); go_simp; (try with_reducible rfl)
 try simp only [las]
 refine tkA 26 ⟨some 137, .move (.tmp 136), 4, "law.go:39", #[⟨25, .data⟩, ⟨24, .chain⟩], none⟩ ?_ (Or.inl ⟨by rfl, ?_⟩) ?_
 rotate_left
 · intro w hSw; (try dsimp only at hSw); go_simp; (try with_reducible rfl)
 try simp only [las]
 refine tkA 27 ⟨some 138, .load 28 (.tmp 5), 28, "law.go:39", #[⟨26, .guard⟩], some (26, true)⟩ ?_ (Or.inl ⟨by rfl, ?_⟩) ?_
 rotate_left
 · intro w hSw; (try dsimp only at hSw); go_simp; (try with_reducible rfl)
 try simp only [las]
 refine tkA 28 ⟨some 139, .load 28 (.tmp 7), 28, "law.go:39", #[⟨26, .guard⟩], some (26, true)⟩ ?_ (Or.inl ⟨by rfl, ?_⟩) ?_
 rotate_left
 · intro w hSw; (try dsimp only at hSw); go_simp; (try with_reducible rfl)
 try simp only [las]
 refine tkA 30 ⟨some 141, .load 50 (.tmp 9), 50, "law.go:39", #[⟨26, .guard⟩], some (26, true)⟩ ?_ (Or.inl ⟨by rfl, ?_⟩) ?_
 rotate_left
 · intro w hSw; (try dsimp only at hSw); go_simp; (try with_reducible rfl)
 try simp only [las]
 refine tkA 31 ⟨some 142, .load 50 (.tmp 11), 50, "law.go:39", #[⟨26, .guard⟩], some (26, true)⟩ ?_ (Or.inl ⟨by rfl, ?_⟩) ?_
 rotate_left
 · intro w hSw; (try dsimp only at hSw); go_simp; (try with_reducible rfl)
 try simp only [las]
 refine wpAnyH_ready (rs := [29]) (by as_aux_lemma => kernel_rfl) (by simp) ?_
 refine AllReadyH.cons (o := _) rfl (fun K hK => ?_) AllReadyH.nil
 go_simp
 go_at_call 20; refine (HSub.out _ _ _ (V_24.rat 3 _ _ rfl) (V_24.rat 2 _ _ rfl) (HTB.out _ V_24.bel)).mono ?_; rintro e wa29 ⟨v29, rfl, r29, hb⟩; have V_29 := (V_24.below hb).rcons r29; clear V_24 r29 hb
 refine hK.out _ _ ?_ (fun hHeld => ?_)
 · exact HS.out _ _ _ _ ‹_›
 clear hK K
 try simp only [las]
 refine wpAnyH_ready (rs := [32]) (by as_aux_lemma => kernel_rfl) (by simp) ?_
 refine AllReadyH.cons (o := _) rfl (fun K hK => ?_) AllReadyH.nil
 go_simp
 go_at_call 39; refine (HRMin.out _ _ (V_29.ref 2 _ _ rfl)).mono ?_; rintro e wa32 ⟨v32, rfl, r32, hb⟩; have V_32 := (V_29.below hb).qcons r32; clear V_29 r32 hb
 refine hK.out _ _ ?_ (fun hHeld => ?_)
 · exact HS.out _ _ _ _ ‹_›
 clear hK K
 try simp only [las]
 refine wpAnyH_ready (rs := [33]) (by as_aux_lemma => kernel_rfl) (by simp) ?_
 refine AllReadyH.cons (o := _) rfl (fun K hK => ?_) AllReadyH.nil
 go_simp
 go_at_call 38; refine (HRSub.out _ _ _ (V_32.ref 4 _ _ rfl) (V_32.ref 0 _ _ rfl)).mono ?_; rintro e wa33 ⟨v33, rfl, r33, hb⟩; have V_33 := (V_32.below hb).qcons r33; clear V_32 r33 hb
 refine hK.out _ _ ?_ (fun hHeld => ?_)
 · exact HS.out _ _ _ _ ‹_›
 clear hK K
 try simp only [las]
 refine wpAnyH_ready (rs := [34]) (by as_aux_lemma => kernel_rfl) (by simp) ?_
 refine AllReadyH.cons (o := _) rfl (fun K hK => ?_) AllReadyH.nil
 go_simp
 go_at_call 30; refine (HSD.out _ _ _ V_33.bel (V_33.rat 0 _ _ rfl) (V_33.ref 0 _ _ rfl)).mono ?_; rintro e wa34 ⟨rfl, hb⟩; have V_34 := V_33.below hb; clear V_33 hb
 refine hK.out _ _ ?_ (fun hHeld => ?_)
 · exact HS.out _ _ _ _ ‹_›
 clear hK K
 try simp only [las]
 refine tkA 35 ⟨some 146, .pick (.tmp 137) (.tmp 145) (.const (.bool false)), 4, "law.go:39", #[⟨26, .data⟩, ⟨34, .data⟩], none⟩ ?_ (Or.inl ⟨by rfl, ?_⟩) ?_
 rotate_left
 · intro w hSw; (try dsimp only at hSw); go_simp; (try with_reducible rfl)
 try simp only [las]
 refine tkA 36 ⟨some 147, .move (.tmp 146), 4, "law.go:39", #[⟨35, .data⟩, ⟨34, .chain⟩], none⟩ ?_ (Or.inl ⟨by rfl, ?_⟩) ?_
 rotate_left
 · intro w hSw; (try dsimp only at hSw); go_simp; (try with_reducible rfl)
 try simp only [las]
 refine tkA 37 ⟨some 148, .load 28 (.tmp 5), 28, "law.go:39", #[⟨36, .guard⟩], some (36, true)⟩ ?_ (Or.inl ⟨by rfl, ?_⟩) ?_
 rotate_left
 · intro w hSw; (try dsimp only at hSw); go_simp; (try with_reducible rfl)
 try simp only [las]
 refine tkA 38 ⟨some 149, .load 28 (.tmp 7), 28, "law.go:39", #[⟨36, .guard⟩], some (36, true)⟩ ?_ (Or.inl ⟨by rfl, ?_⟩) ?_
 rotate_left
 · intro w hSw; (try dsimp only at hSw); go_simp; (try with_reducible rfl)
 try simp only [las]
 refine tkA 40 ⟨some 151, .load 50 (.tmp 9), 50, "law.go:39", #[⟨36, .guard⟩], some (36, true)⟩ ?_ (Or.inl ⟨by rfl, ?_⟩) ?_
 rotate_left
 · intro w hSw; (try dsimp only at hSw); go_simp; (try with_reducible rfl)
 try simp only [las]
 refine tkA 41 ⟨some 152, .load 50 (.tmp 11), 50, "law.go:39", #[⟨36, .guard⟩], some (36, true)⟩ ?_ (Or.inl ⟨by rfl, ?_⟩) ?_
 rotate_left
 · intro w hSw; (try dsimp only at hSw); go_simp; (try with_reducible rfl)
 try simp only [las]
 refine wpAnyH_ready (rs := [39]) (by as_aux_lemma => kernel_rfl) (by simp) ?_
 refine AllReadyH.cons (o := _) rfl (fun K hK => ?_) AllReadyH.nil
 go_simp
 go_at_call 27; refine (HMul.out _ _ _ (V_34.rat 4 _ _ rfl) (V_34.rat 3 _ _ rfl) (HTB.out _ V_34.bel)).mono ?_; rintro e wa39 ⟨v39, rfl, r39, hb⟩; have V_39 := (V_34.below hb).rcons r39; clear V_34 r39 hb
 refine hK.out _ _ ?_ (fun hHeld => ?_)
 · exact HS.out _ _ _ _ ‹_›
 clear hK K
 try simp only [las]
 refine wpAnyH_ready (rs := [42]) (by as_aux_lemma => kernel_rfl) (by simp) ?_
 refine AllReadyH.cons (o := _) rfl (fun K hK => ?_) AllReadyH.nil
 go_simp
 go_at_call 40; refine (HRMul.out _ _ _ (V_39.ref 5 _ _ rfl) (V_39.ref 4 _ _ rfl)).mono ?_; rintro e wa42 ⟨v42, rfl, r42, hb⟩; have V_42 := (V_39.below hb).qcons r42; clear V_39 r42 hb
 refine hK.out _ _ ?_ (fun hHeld => ?_)
 · exact HS.out _ _ _ _ ‹_›
 clear hK K
 try simp only [las]
 refine wpAnyH_ready (rs := [43]) (by as_aux_lemma => kernel_rfl) (by simp) ?_
 refine AllReadyH.cons (o := _) rfl (fun K hK => ?_) AllReadyH.nil
 go_simp
 go_at_call 30; refine (HSM.out _ _ _ V_42.bel (V_42.rat 0 _ _ rfl) (V_42.ref 0 _ _ rfl)).mono ?_; rintro e wa43 ⟨rfl, hb⟩; have V_43 := V_42.below hb; clear V_42 hb
 refine hK.out _ _ ?_ (fun hHeld => ?_)
 · exact HS.out _ _ _ _ ‹_›
 clear hK K
 try simp only [las]
 refine tkA 44 ⟨some 155, .pick (.tmp 147) (.tmp 154) (.const (.bool false)), 4, "law.go:39", #[⟨36, .data⟩, ⟨43, .data⟩], none⟩ ?_ (Or.inl ⟨by rfl, ?_⟩) ?_
 rotate_left
 · intro w hSw; (try dsimp only at hSw); go_simp; (try with_reducible rfl)
 try simp only [las]
 refine tkA 45 ⟨some 156, .move (.tmp 155), 4, "law.go:39", #[⟨44, .data⟩, ⟨43, .chain⟩], none⟩ ?_ (Or.inl ⟨by rfl, ?_⟩) ?_
 rotate_left
 · intro w hSw; (try dsimp only at hSw); go_simp; (try with_reducible rfl)
 try simp only [las]
 refine tkA 46 ⟨some 157, .load 28 (.tmp 5), 28, "law.go:39", #[⟨45, .guard⟩], some (45, true)⟩ ?_ (Or.inl ⟨by rfl, ?_⟩) ?_
 rotate_left
 · intro w hSw; (try dsimp only at hSw); go_simp; (try with_reducible rfl)
 try simp only [las]
 refine tkA 48 ⟨some 159, .load 50 (.tmp 9), 50, "law.go:39", #[⟨45, .guard⟩], some (45, true)⟩ ?_ (Or.inl ⟨by rfl, ?_⟩) ?_
 rotate_left
 · intro w hSw; (try dsimp only at hSw); go_simp; (try with_reducible rfl)
 try simp only [las]
 refine wpAnyH_ready (rs := [47]) (by as_aux_lemma => kernel_rfl) (by simp) ?_
 refine AllReadyH.cons (o := _) rfl (fun K hK => ?_) AllReadyH.nil
 go_simp
 go_at_call 24; refine (HFl.out _ _ (V_43.rat 5 _ _ rfl)).mono ?_; rintro e wa47 ⟨v47, rfl, r47, hb⟩; have V_47 := (V_43.below hb).rcons r47; clear V_43 r47 hb
 refine hK.out _ _ ?_ (fun hHeld => ?_)
 · exact HS.out _ _ _ _ ‹_›
 clear hK K
 try simp only [las]
 refine wpAnyH_ready (rs := [49]) (by as_aux_lemma => kernel_rfl) (by simp) ?_
 refine AllReadyH.cons (o := _) rfl (fun K hK => ?_) AllReadyH.nil
 go_simp
 go_at_call 41; refine (HRFl.out _ _ (V_47.ref 6 _ _ rfl)).mono ?_; rintro e wa49 ⟨v49, rfl, r49, hb⟩; have V_49 := (V_47.below hb).qcons r49; clear V_47 r49 hb
 refine hK.out _ _ ?_ (fun hHeld => ?_)
 · exact HS.out _ _ _ _ ‹_›
 clear hK K
 try simp only [las]
 refine wpAnyH_ready (rs := [50]) (by as_aux_lemma => kernel_rfl) (by simp) ?_
 refine AllReadyH.cons (o := _) rfl (fun K hK => ?_) AllReadyH.nil
 go_simp
 go_at_call 30; refine (HSF.out _ _ _ V_49.bel (V_49.rat 0 _ _ rfl) (V_49.ref 0 _ _ rfl)).mono ?_; rintro e wa50 ⟨rfl, hb⟩; have V_50 := V_49.below hb; clear V_49 hb
 refine hK.out _ _ ?_ (fun hHeld => ?_)
 · exact HS.out _ _ _ _ ‹_›
 clear hK K
 try simp only [las]
 refine tkA 51 ⟨some 162, .pick (.tmp 156) (.tmp 161) (.const (.bool false)), 4, "law.go:39", #[⟨45, .data⟩, ⟨50, .data⟩], none⟩ ?_ (Or.inl ⟨by rfl, ?_⟩) ?_
 rotate_left
 · intro w hSw; (try dsimp only at hSw); go_simp; (try with_reducible rfl)
 try simp only [las]
 refine tkA 52 ⟨some 163, .move (.tmp 162), 4, "law.go:39", #[⟨51, .data⟩, ⟨50, .chain⟩], none⟩ ?_ (Or.inl ⟨by rfl, ?_⟩) ?_
 rotate_left
 · intro w hSw; (try dsimp only at hSw); go_simp; (try with_reducible rfl)
 try simp only [las]
 refine tkA 53 ⟨some 164, .load 28 (.tmp 5), 28, "law.go:39", #[⟨52, .guard⟩], some (52, true)⟩ ?_ (Or.inl ⟨by rfl, ?_⟩) ?_
 rotate_left
 · intro w hSw; (try dsimp only at hSw); go_simp; (try with_reducible rfl)
 try simp only [las]
 refine tkA 55 ⟨some 166, .load 50 (.tmp 9), 50, "law.go:39", #[⟨52, .guard⟩], some (52, true)⟩ ?_ (Or.inl ⟨by rfl, ?_⟩) ?_
 rotate_left
 · intro w hSw; (try dsimp only at hSw); go_simp; (try with_reducible rfl)
 try simp only [las]
 refine wpAnyH_ready (rs := [54]) (by as_aux_lemma => kernel_rfl) (by simp) ?_
 refine AllReadyH.cons (o := _) rfl (fun K hK => ?_) AllReadyH.nil
 go_simp
 go_at_call 25; refine (HCe.out _ _ (V_50.rat 6 _ _ rfl)).mono ?_; rintro e wa54 ⟨v54, rfl, r54, hb⟩; have V_54 := (V_50.below hb).rcons r54; clear V_50 r54 hb
 refine hK.out _ _ ?_ (fun hHeld => ?_)
 · exact HS.out _ _ _ _ ‹_›
 clear hK K
 try simp only [las]
 refine wpAnyH_ready (rs := [56]) (by as_aux_lemma => kernel_rfl) (by simp) ?_
 refine AllReadyH.cons (o := _) rfl (fun K hK => ?_) AllReadyH.nil
 go_simp
 go_at_call 42; refine (HRCe.out _ _ (V_54.ref 7 _ _ rfl)).mono ?_; rintro e wa56 ⟨v56, rfl, r56, hb⟩; have V_56 := (V_54.below hb).qcons r56; clear V_54 r56 hb
 refine hK.out _ _ ?_ (fun hHeld => ?_)
 · exact HS.out _ _ _ _ ‹_›
 clear hK K
 try simp only [las]
 refine wpAnyH_ready (rs := [57]) (by as_aux_lemma => kernel_rfl) (by simp) ?_
 refine AllReadyH.cons (o := _) rfl (fun K hK => ?_) AllReadyH.nil
 go_simp
 go_at_call 30; refine (HSC.out _ _ _ V_56.bel (V_56.rat 0 _ _ rfl) (V_56.ref 0 _ _ rfl)).mono ?_; rintro e wa57 ⟨rfl, hb⟩; have V_57 := V_56.below hb; clear V_56 hb
 refine hK.out _ _ ?_ (fun hHeld => ?_)
 · exact HS.out _ _ _ _ ‹_›
 clear hK K
 try simp only [las]
 refine tkA 58 ⟨some 169, .pick (.tmp 163) (.tmp 168) (.const (.bool false)), 4, "law.go:39", #[⟨52, .data⟩, ⟨57, .data⟩], none⟩ ?_ (Or.inl ⟨by rfl, ?_⟩) ?_
 rotate_left
 · intro w hSw; (try dsimp only at hSw); go_simp; (try with_reducible rfl)
 try simp only [las]
 refine tkA 59 ⟨some 170, .move (.tmp 169), 4, "law.go:39", #[⟨58, .data⟩, ⟨57, .chain⟩], none⟩ ?_ (Or.inl ⟨by rfl, ?_⟩) ?_
 rotate_left
 · intro w hSw; (try dsimp only at hSw); go_simp; (try with_reducible rfl)
 try simp only [las]
 refine tkA 60 ⟨some 171, .load 28 (.tmp 5), 28, "law.go:39", #[⟨59, .guard⟩], some (59, true)⟩ ?_ (Or.inl ⟨by rfl, ?_⟩) ?_
 rotate_left
 · intro w hSw; (try dsimp only at hSw); go_simp; (try with_reducible rfl)
 try simp only [las]
 refine tkA 62 ⟨some 173, .load 50 (.tmp 9), 50, "law.go:39", #[⟨59, .guard⟩], some (59, true)⟩ ?_ (Or.inl ⟨by rfl, ?_⟩) ?_
 rotate_left
 · intro w hSw; (try dsimp only at hSw); go_simp; (try with_reducible rfl)
 try simp only [las]
 refine wpAnyH_ready (rs := [61]) (by as_aux_lemma => kernel_rfl) (by simp) ?_
 refine AllReadyH.cons (o := _) rfl (fun K hK => ?_) AllReadyH.nil
 go_simp
 go_at_call 19; refine (HRo.out _ _ (V_57.rat 7 _ _ rfl)).mono ?_; rintro e wa61 ⟨v61, rfl, r61, hb⟩; have V_61 := (V_57.below hb).rcons r61; clear V_57 r61 hb
 refine hK.out _ _ ?_ (fun hHeld => ?_)
 · exact HS.out _ _ _ _ ‹_›
 clear hK K
 try simp only [las]
 refine wpAnyH_ready (rs := [63]) (by as_aux_lemma => kernel_rfl) (by simp) ?_
 refine AllReadyH.cons (o := _) rfl (fun K hK => ?_) AllReadyH.nil
 go_simp
 go_at_call 43; refine (HRRo.out _ _ (V_61.ref 8 _ _ rfl)).mono ?_; rintro e wa63 ⟨v63, rfl, r63, hb⟩; have V_63 := (V_61.below hb).qcons r63; clear V_61 r63 hb
 refine hK.out _ _ ?_ (fun hHeld => ?_)
 · exact HS.out _ _ _ _ ‹_›
 clear hK K
 try simp only [las]
 refine wpAnyH_ready (rs := [64]) (by as_aux_lemma => kernel_rfl) (by simp) ?_
 refine AllReadyH.cons (o := _) rfl (fun K hK => ?_) AllReadyH.nil
 go_simp
 go_at_call 30; refine (HSR.out _ _ _ V_63.bel (V_63.rat 0 _ _ rfl) (V_63.ref 0 _ _ rfl)).mono ?_; rintro e wa64 ⟨rfl, hb⟩; have V_64 := V_63.below hb; clear V_63 hb
 refine hK.out _ _ ?_ (fun hHeld => ?_)
 · exact HS.out _ _ _ _ ‹_›
 clear hK K
 try simp only [las]
 refine tkA 65 ⟨some 176, .pick (.tmp 170) (.tmp 175) (.const (.bool false)), 4, "law.go:39", #[⟨59, .data⟩, ⟨64, .data⟩], none⟩ ?_ (Or.inl ⟨by rfl, ?_⟩) ?_
 rotate_left
 · intro w hSw; (try dsimp only at hSw); go_simp; (try with_reducible rfl)
 try simp only [las]
 refine tkA 66 ⟨some 177, .move (.tmp 176), 4, "law.go:39", #[⟨65, .data⟩, ⟨64, .chain⟩], none⟩ ?_ (Or.inl ⟨by rfl, ?_⟩) ?_
 rotate_left
 · intro w hSw; (try dsimp only at hSw); go_simp; (try with_reducible rfl)
 try simp only [las]
 refine tkA 67 ⟨some 178, .load 28 (.tmp 5), 28, "law.go:39", #[⟨66, .guard⟩], some (66, true)⟩ ?_ (Or.inl ⟨by rfl, ?_⟩) ?_
 rotate_left
 · intro w hSw; (try dsimp only at hSw); go_simp; (try with_reducible rfl)
 try simp only [las]
 refine tkA 69 ⟨some 180, .move (.tmp 15), 4, "law.go:39", #[⟨66, .guard⟩], some (66, true)⟩ ?_ (Or.inl ⟨by rfl, ?_⟩) ?_
 rotate_left
 · intro w hSw; (try dsimp only at hSw); go_simp; (try with_reducible rfl)
 try simp only [las]
 refine wpAnyH_ready (rs := [68]) (by as_aux_lemma => kernel_rfl) (by simp) ?_
 refine AllReadyH.cons (o := _) rfl (fun K hK => ?_) AllReadyH.nil
 go_simp
 go_at_call 22; refine (HWh.out _ _ (V_64.rat 8 _ _ rfl)).mono ?_; rintro e wa68 ⟨rfl, hb⟩; have V_68 := V_64.below hb; clear V_64 hb
 refine hK.out _ _ ?_ (fun hHeld => ?_)
 · exact HS.out _ _ _ _ ‹_›
 clear hK K
 try simp only [las]
 refine tkA 70 ⟨some 181, .binOp .eql 4 (.tmp 179) (.tmp 180) 4, 4, "law.go:39", #[⟨68, .data⟩, ⟨69, .data⟩, ⟨66, .guard⟩], some (66, true)⟩ (.bool true) (Or.inl ⟨by rfl, ?_⟩) ?_
 · intro w hSw; (try dsimp only at hSw); go_simp; skip
 try simp only [las]
 refine tkA 71 ⟨some 182, .pick (.tmp 177) (.tmp 181) (.const (.bool false)), 4, "law.go:39", #[⟨66, .data⟩, ⟨70, .data⟩], none⟩ ?_ (Or.inl ⟨by rfl, ?_⟩) ?_
 rotate_left
 · intro w hSw; (try dsimp only at hSw); go_simp; (try with_reducible rfl)
 try simp only [las]
 refine tkA 72 ⟨some 183, .move (.tmp 182), 4, "law.go:39", #[⟨71, .data⟩, ⟨68, .chain⟩], none⟩ ?_ (Or.inl ⟨by rfl, ?_⟩) ?_
 rotate_left
 · intro w hSw; (try dsimp only at hSw); go_simp; (try with_reducible rfl)
 try simp only [las]
 refine tkA 73 ⟨some 184, .load 28 (.tmp 5), 28, "law.go:39", #[⟨72, .guard⟩], some (72, true)⟩ ?_ (Or.inl ⟨by rfl, ?_⟩) ?_
 rotate_left
 · intro w hSw; (try dsimp only at hSw); go_simp; (try with_reducible rfl)
 try simp only [las]
 refine tkA 75 ⟨some 186, .fieldAddr 50 (.tmp 9) 0, 0, "law.go:39", #[⟨72, .guard⟩], some (72, true)⟩ ?_ (Or.inl ⟨by rfl, ?_⟩) ?_
 rotate_left
 · intro w hSw; (try dsimp only at hSw); go_simp; (try with_reducible rfl)
 try simp only [las]
 refine tkA 76 ⟨some 187, .load 4 (.tmp 186), 4, "law.go:39", #[⟨75, .data⟩, ⟨72, .guard⟩], some (72, true)⟩ ?_ (Or.inl ⟨by rfl, ?_⟩) ?_
 rotate_left
 · intro w hSw; (try dsimp only at hSw); go_simp; (try with_reducible rfl)
 try simp only [las]
 refine wpAnyH_ready (rs := [74]) (by as_aux_lemma => kernel_rfl) (by simp) ?_
 refine AllReadyH.cons (o := _) rfl (fun K hK => ?_) AllReadyH.nil
 go_simp
 go_at_call 21; refine (HNg.out _ _ (V_68.rat 8 _ _ rfl)).mono ?_; rintro e wa74 ⟨rfl, hb⟩; have V_74 := V_68.below hb; clear V_68 hb
 refine hK.out _ _ ?_ (fun hHeld => ?_)
 · exact HS.out _ _ _ _ ‹_›
 clear hK K
 try simp only [las]
 refine tkA 77 ⟨some 188, .binOp .eql 4 (.tmp 185) (.tmp 187) 4, 4, "law.go:39", #[⟨74, .data⟩, ⟨76, .data⟩, ⟨72, .guard⟩], some (72, true)⟩ ?_ (Or.inl ⟨by rfl, ?_⟩) ?_
 rotate_left
 · intro w hSw; (try dsimp only at hSw); go_simp; (try with_reducible rfl)
 try simp only [las]
 refine tkA 78 ⟨some 189, .pick (.tmp 183) (.tmp 188) (.const (.bool false)), 4, "law.go:39", #[⟨72, .data⟩, ⟨77, .data⟩], none⟩ ?_ (Or.inl ⟨by rfl, ?_⟩) ?_
 rotate_left
 · intro w hSw; (try dsimp only at hSw); go_simp; (try with_reducible rfl)
 try simp only [las]
 refine tkA 79 ⟨some 190, .move (.tmp 189), 4, "law.go:39", #[⟨78, .data⟩, ⟨74, .chain⟩], none⟩ ?_ (Or.inl ⟨by rfl, ?_⟩) ?_
 rotate_left
 · intro w hSw; (try dsimp only at hSw); go_simp; (try with_reducible rfl)
 try simp only [las]
 refine tkA 80 ⟨some 191, .load 28 (.tmp 5), 28, "law.go:39", #[⟨79, .guard⟩], some (79, true)⟩ ?_ (Or.inl ⟨by rfl, ?_⟩) ?_
 rotate_left
 · intro w hSw; (try dsimp only at hSw); go_simp; (try with_reducible rfl)
 try simp only [las]
 refine tkA 83 ⟨some 194, .fieldAddr 50 (.tmp 9) 1, 0, "law.go:39", #[⟨79, .guard⟩], some (79, true)⟩ ?_ (Or.inl ⟨by rfl, ?_⟩) ?_
 rotate_left
 · intro w hSw; (try dsimp only at hSw); go_simp; (try with_reducible rfl)
 try simp only [las]
 refine tkA 84 ⟨some 195, .load 48 (.tmp 194), 48, "law.go:39", #[⟨83, .data⟩, ⟨79, .guard⟩], some (79, true)⟩ ?_ (Or.inl ⟨by rfl, ?_⟩) ?_
 rotate_left
 · intro w hSw; (try dsimp only at hSw); go_simp; (try with_reducible rfl)
 try simp only [las]
 refine wpAnyH_ready (rs := [81]) (by as_aux_lemma => kernel_rfl) (by simp) ?_
 refine AllReadyH.cons (o := _) rfl (fun K hK => ?_) AllReadyH.nil
 go_simp
 go_at_call 17; refine (HNu.out _ _ (V_74.rat 8 _ _ rfl)).mono ?_; rintro e wa81 ⟨x81_, y81_, z81_, rfl, i81, hb⟩; have V_81 := V_74.below hb; clear V_74 hb
 refine hK.out _ _ ?_ (fun hHeld => ?_)
 · exact HS.out _ _ _ _ ‹_›
 clear hK K
 try simp only [las]
 refine wpAnyH_ready (rs := [82]) (by as_aux_lemma => kernel_rfl) (by simp) ?_
 refine AllReadyH.cons (o := _) rfl (fun K hK => ?_) AllReadyH.nil
 go_simp
 go_at_call 14; refine (HTN.out _ _ _ V_81.bel i81).mono ?_; rintro e wa82 ⟨rfl, hb⟩; have V_82 := V_81.below hb; clear V_81 hb i81
 refine hK.out _ _ ?_ (fun hHeld => ?_)
 · exact HS.out _ _ _ _ ‹_›
 clear hK K
 try simp only [las]
 refine wpAnyH_ready (rs := [85]) (by as_aux_lemma => kernel_rfl) (by simp) ?_
 refine AllReadyH.cons (o := _) rfl (fun K hK => ?_) AllReadyH.nil
 go_simp
 go_at_call 36; refine (HRT.out _ _ _ (V_82.num 0 _ _ rfl).1 HA9.out.1).mono ?_; rintro e wa85 ⟨rfl, hb⟩; have V_85 := V_82.below hb; clear V_82 hb
 refine hK.out _ _ ?_ (fun hHeld => ?_)
 · exact HS.out _ _ _ _ ‹_›
 clear hK K
 try simp only [las]
 refine tkA 86 ⟨some 197, .binOp .eql 9 (.tmp 193) (.tmp 196) 9, 4, "law.go:39", #[⟨82, .data⟩, ⟨85, .data⟩, ⟨79, .guard⟩], some (79, true)⟩ ?_ (Or.inl ⟨by rfl, ?_⟩) ?_
 rotate_left
 · intro w hSw; (try dsimp only at hSw); go_simp; (try with_reducible rfl)
 try simp only [las]
 refine tkA 87 ⟨some 198, .pick (.tmp 190) (.tmp 197) (.const (.bool false)), 4, "law.go:39", #[⟨79, .data⟩, ⟨86, .data⟩], none⟩ ?_ (Or.inl ⟨by rfl, ?_⟩) ?_
 rotate_left
 · intro w hSw; (try dsimp only at hSw); go_simp; (try with_reducible rfl)
 try simp only [las]
 refine tkA 88 ⟨some 199, .move (.tmp 198), 4, "law.go:39", #[⟨87, .data⟩, ⟨85, .chain⟩], none⟩ ?_ (Or.inl ⟨by rfl, ?_⟩) ?_
 rotate_left
 · intro w hSw; (try dsimp only at hSw); go_simp; (try with_reducible rfl)
 try simp only [las]
 refine tkA 89 ⟨some 200, .load 28 (.tmp 5), 28, "law.go:39", #[⟨88, .guard⟩], some (88, true)⟩ ?_ (Or.inl ⟨by rfl, ?_⟩) ?_
 rotate_left
 · intro w hSw; (try dsimp only at hSw); go_simp; (try with_reducible rfl)
 try simp only [las]
 refine tkA 92 ⟨some 203, .fieldAddr 50 (.tmp 9) 2, 0, "law.go:39", #[⟨88, .guard⟩], some (88, true)⟩ ?_ (Or.inl ⟨by rfl, ?_⟩) ?_
 rotate_left
 · intro w hSw; (try dsimp only at hSw); go_simp; (try with_reducible rfl)
 try simp only [las]
 refine tkA 93 ⟨some 204, .load 48 (.tmp 203), 48, "law.go:39", #[⟨92, .data⟩, ⟨88, .guard⟩], some (88, true)⟩ ?_ (Or.inl ⟨by rfl, ?_⟩) ?_
 rotate_left
 · intro w hSw; (try dsimp only at hSw); go_simp; (try with_reducible rfl)
 try simp only [las]
 refine wpAnyH_ready (rs := [90]) (by as_aux_lemma => kernel_rfl) (by simp) ?_
 refine AllReadyH.cons (o := _) rfl (fun K hK => ?_) AllReadyH.nil
 go_simp
 go_at_call 18; refine (HDe.out _ _ (V_85.rat 8 _ _ rfl)).mono ?_; rintro e wa90 ⟨x90_, y90_, z90_, rfl, i90, hb⟩; have V_90 := V_85.below hb; clear V_85 hb
 refine hK.out _ _ ?_ (fun hHeld => ?_)
 · exact HS.out _ _ _ _ ‹_›
 clear hK K
 try simp only [las]
 refine wpAnyH_ready (rs := [91]) (by as_aux_lemma => kernel_rfl) (by simp) ?_
 refine AllReadyH.cons (o := _) rfl (fun K hK => ?_) AllReadyH.nil
 go_simp
 go_at_call 14; refine (HTN.out _ _ _ V_90.bel i90).mono ?_; rintro e wa91 ⟨rfl, hb⟩; have V_91 := V_90.below hb; clear V_90 hb i90
 refine hK.out _ _ ?_ (fun hHeld => ?_)
 · exact HS.out _ _ _ _ ‹_›
 clear hK K
 try simp only [las]
 refine wpAnyH_ready (rs := [94]) (by as_aux_lemma => kernel_rfl) (by simp) ?_
 refine AllReadyH.cons (o := _) rfl (fun K hK => ?_) AllReadyH.nil
 go_simp
 go_at_call 36; refine (HRT.out _ _ _ (V_91.num 1 _ _ rfl).1 HA9.out.2).mono ?_; rintro e wa94 ⟨rfl, hb⟩; have V_94 := V_91.below hb; clear V_91 hb
 refine hK.out _ _ ?_ (fun hHeld => ?_)
 · exact HS.out _ _ _ _ ‹_›
 clear hK K
 try simp only [las]
 refine tkA 95 ⟨some 206, .binOp .eql 9 (.tmp 202) (.tmp 205) 9, 4, "law.go:39", #[⟨91, .data⟩, ⟨94, .data⟩, ⟨88, .guard⟩], some (88, true)⟩ ?_ (Or.inl ⟨by rfl, ?_⟩) ?_
 rotate_left
 · intro w hSw; (try dsimp only at hSw); go_simp; (try with_reducible rfl)
 try simp only [las]
 refine tkA 96 ⟨some 207, .pick (.tmp 199) (.tmp 206) (.const (.bool false)), 4, "law.go:39", #[⟨88, .data⟩, ⟨95, .data⟩], none⟩ ?_ (Or.inl ⟨by rfl, ?_⟩) ?_
 rotate_left
 · intro w hSw; (try dsimp only at hSw); go_simp; (try with_reducible rfl)
 try simp only [las]
 refine tkA 97 ⟨some 208, .move (.tmp 207), 4, "law.go:39", #[⟨96, .data⟩, ⟨94, .chain⟩], none⟩ ?_ (Or.inl ⟨by rfl, ?_⟩) ?_
 rotate_left
 · intro w hSw; (try dsimp only at hSw); go_simp; (try with_reducible rfl)
 try simp only [las]
 refine tkA 98 ⟨some 209, .load 28 (.tmp 5), 28, "law.go:39", #[⟨97, .guard⟩], some (97, true)⟩ ?_ (Or.inl ⟨by rfl, ?_⟩) ?_
 rotate_left
 · intro w hSw; (try dsimp only at hSw); go_simp; (try with_reducible rfl)
 try simp only [las]
 refine wpAnyH_ready (rs := [99]) (by as_aux_lemma => kernel_rfl) (by simp) ?_
 refine AllReadyH.cons (o := _) rfl (fun K hK => ?_) AllReadyH.nil
 go_simp
 go_at_call 44; refine (HBi.out _ _ (V_94.rat 8 _ _ rfl)).mono ?_; rintro e wa99 ⟨rfl, hb⟩; have V_99 := V_94.below hb; clear V_94 hb
 refine hK.out _ _ ?_ (fun hHeld => ?_)
 · exact HS.out _ _ _ _ ‹_›
 clear hK K
 try simp only [las]
 refine tkA 100 ⟨some 211, .unOp .not 4 (.tmp 210), 4, "law.go:39", #[⟨99, .data⟩, ⟨97, .guard⟩], some (97, true)⟩ ?_ (Or.inl ⟨by rfl, ?_⟩) ?_
 rotate_left
 · intro w hSw; (try dsimp only at hSw); go_simp; (try with_reducible rfl)
 try simp only [las]
 refine tkA 101 ⟨some 212, .pick (.tmp 208) (.tmp 211) (.const (.bool false)), 4, "law.go:39", #[⟨97, .data⟩, ⟨100, .data⟩], none⟩ ?_ (Or.inl ⟨by rfl, ?_⟩) ?_
 rotate_left
 · intro w hSw; (try dsimp only at hSw); go_simp; (try with_reducible rfl)
 try simp only [las]
 refine tkA 102 ⟨some 4, .assign (.tmp 212), 4, "law.go:39", #[⟨101, .data⟩, ⟨99, .chain⟩, ⟨0, .phase⟩, ⟨1, .phase⟩, ⟨2, .phase⟩, ⟨3, .phase⟩, ⟨4, .phase⟩, ⟨5, .phase⟩, ⟨6, .phase⟩, ⟨7, .phase⟩, ⟨8, .phase⟩, ⟨9, .phase⟩, ⟨10, .phase⟩, ⟨11, .phase⟩, ⟨12, .phase⟩, ⟨13, .phase⟩, ⟨14, .phase⟩, ⟨15, .phase⟩, ⟨16, .phase⟩, ⟨17, .phase⟩, ⟨18, .phase⟩, ⟨19, .phase⟩, ⟨20, .phase⟩, ⟨21, .phase⟩, ⟨22, .phase⟩, ⟨23, .phase⟩, ⟨24, .phase⟩, ⟨25, .phase⟩, ⟨26, .phase⟩, ⟨27, .phase⟩, ⟨28, .phase⟩, ⟨29, .phase⟩, ⟨30, .phase⟩, ⟨31, .phase⟩, ⟨32, .phase⟩, ⟨33, .phase⟩, ⟨34, .phase⟩, ⟨35, .phase⟩, ⟨36, .phase⟩, ⟨37, .phase⟩, ⟨38, .phase⟩, ⟨39, .phase⟩, ⟨40, .phase⟩, ⟨41, .phase⟩, ⟨42, .phase⟩, ⟨43, .phase⟩, ⟨44, .phase⟩, ⟨45, .phase⟩, ⟨46, .phase⟩, ⟨47, .phase⟩, ⟨48, .phase⟩, ⟨49, .phase⟩, ⟨50, .phase⟩, ⟨51, .phase⟩, ⟨52, .phase⟩, ⟨53, .phase⟩, ⟨54, .phase⟩, ⟨55, .phase⟩, ⟨56, .phase⟩, ⟨57, .phase⟩, ⟨58, .phase⟩, ⟨59, .phase⟩, ⟨60, .phase⟩, ⟨61, .phase⟩, ⟨62, .phase⟩, ⟨63, .phase⟩, ⟨64, .phase⟩, ⟨65, .phase⟩, ⟨66, .phase⟩, ⟨67, .phase⟩, ⟨68, .phase⟩, ⟨69, .phase⟩, ⟨70, .phase⟩, ⟨71, .phase⟩, ⟨72, .phase⟩, ⟨73, .phase⟩, ⟨74, .phase⟩, ⟨75, .phase⟩, ⟨76, .phase⟩, ⟨77, .phase⟩, ⟨78, .phase⟩, ⟨79, .phase⟩, ⟨80, .phase⟩, ⟨81, .phase⟩, ⟨82, .phase⟩, ⟨83, .phase⟩, ⟨84, .phase⟩, ⟨85, .phase⟩, ⟨86, .phase⟩, ⟨87, .phase⟩, ⟨88, .phase⟩, ⟨89, .phase⟩, ⟨90, .phase⟩, ⟨91, .phase⟩, ⟨92, .phase⟩, ⟨93, .phase⟩, ⟨94, .phase⟩, ⟨95, .phase⟩, ⟨96, .phase⟩, ⟨97, .phase⟩, ⟨98, .phase⟩, ⟨99, .phase⟩, ⟨100, .phase⟩, ⟨101, .phase⟩], none⟩ ?_ (Or.inl ⟨by rfl, ?_⟩) ?_
 rotate_left
 · intro w hSw; (try dsimp only at hSw); go_simp; (try with_reducible rfl)
 try simp only [las]
 refine wpAnyH_done (by as_aux_lemma => kernel_rfl) ?_ _
 have HV := Lib.hid V_99.bel
 clear V_99
 go_wp2_with fail
 go_ret
 exact ⟨rfl, HV.out⟩
end Go.Proofs.YtllmacokhjmdgaaGreatDoor
