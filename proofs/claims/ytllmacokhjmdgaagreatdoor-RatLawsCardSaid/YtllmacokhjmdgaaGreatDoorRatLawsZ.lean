/-
  The walk of RatLaws: for every input it returns true, and leaves what lay in memory as it was.
-/
import Derived.Test.YtllmacokhjmdgaaGreatDoorQJ
namespace Go.Proofs.YtllmacokhjmdgaaGreatDoor
open Go.RowKit
set_option linter.unusedVariables false
set_option maxRecDepth 100000 in
set_option maxHeartbeats 16000000 in
theorem ratLaws.good0 (s t u : ByteArray) (qa qb qc : Rat) (w : World) (htab : Tab w) (htb : TabB w) (hs : ¬ (100 : Int) < (s.size : Int)) (ht : ¬ (100 : Int) < (t.size : Int)) (hu : ¬ (100 : Int) < (u.size : Int)) (hpa : pq s = some qa) (hpb : pq t = some qb) (hpc : pq u = some qc) (hb0 : qb.num.natAbs = 0) :
    Calls Tryz.prog 5 #[.string s, .string t, .string u] w fun e w' => e = .returned (.bool true) ∧ Below w.heap.size w w' := by
  have HAl := Lib.hid (alive_r w htab htb)
  have sza : Sz 6 qa := pq_sz19 hpa (by omega) (by omega)
  have szb : Sz 6 qb := pq_sz19 hpb (by omega) (by omega)
  have szc : Sz 6 qc := pq_sz19 hpc (by omega) (by omega)
  have szs := sz_add szb szc
  have szp1 := sz_mul sza szs
  have szp2 := sz_mul sza szb
  have szp3 := sz_mul sza szc
  have szd := sz_sub sza szb
  have szf := sz_floor sza (by omega)
  have sz1 : Sz 1 (1 : Rat) := sz_int 1 (by omega) 1 (by decide)
  have sz0 := sz_zero 1 (by omega)
  have szf1 := sz_add szf sz1
  have szce : Sz 8 ((qa.ceil : Int) : Rat) := by
    rw [Rat.ceil_eq_neg_floor_neg, Rat.intCast_neg]
    exact sz_neg ((sz_floor (sz_neg sza) (by omega)).mono (by omega))
  have HTB : Hid (∀ W, Below w.heap.size w W → TabB W) := Lib.hid (fun W hb => htb.below hb (Nat.le_refl _))
  obtain ⟨c1, e1⟩ : ∃ c, cmpQ ((qa.floor : Int) : Rat) qa = c := ⟨_, rfl⟩
  have l1 : decide (c1 ≤ 0) = true := by
    rcases floor_under qa with h | h <;> rw [e1] at h <;> rw [h] <;> decide
  obtain ⟨c3, e3⟩ : ∃ c, cmpQ ((qa.ceil : Int) : Rat) qa = c := ⟨_, rfl⟩
  have l3 : decide (0 ≤ c3) = true := by
    rcases ceil_over qa with h | h <;> rw [e3] at h <;> rw [h] <;> decide
  obtain ⟨c4, e4⟩ : ∃ c, cmpQ qa qb = c := ⟨_, rfl⟩
  have l4 : IntKind.wrap .i64 c4 = c4 := by
    unfold cmpQ at e4
    split at e4
    · rw [← e4]; decide
    · split at e4 <;> rw [← e4] <;> decide
  have HPaA : Hid (∀ W, TabB W → Calls Tryz.prog 12 #[.string s] W fun e w' => ∃ b x y z x' y' z', e = .returned (.tuple #[.agg #[.bool b, .slice x y z, .slice x' y' z'], .int .i64 0]) ∧ IsR w' (.agg #[.bool b, .slice x y z, .slice x' y' z']) qa ∧ Below W.heap.size W w') := Lib.hid (fun W htw => by
    have := parse_r s W (by omega) htw
    rw [hpa] at this
    exact this)
  have HPaB : Hid (∀ W, TabB W → Calls Tryz.prog 12 #[.string t] W fun e w' => ∃ b x y z x' y' z', e = .returned (.tuple #[.agg #[.bool b, .slice x y z, .slice x' y' z'], .int .i64 0]) ∧ IsR w' (.agg #[.bool b, .slice x y z, .slice x' y' z']) qb ∧ Below W.heap.size W w') := Lib.hid (fun W htw => by
    have := parse_r t W (by omega) htw
    rw [hpb] at this
    exact this)
  have HPaC : Hid (∀ W, TabB W → Calls Tryz.prog 12 #[.string u] W fun e w' => ∃ b x y z x' y' z', e = .returned (.tuple #[.agg #[.bool b, .slice x y z, .slice x' y' z'], .int .i64 0]) ∧ IsR w' (.agg #[.bool b, .slice x y z, .slice x' y' z']) qc ∧ Below W.heap.size W w') := Lib.hid (fun W htw => by
    have := parse_r u W (by omega) htw
    rw [hpc] at this
    exact this)
  have HS1 : Hid (∀ W va vb, IsR W va (qb) → IsR W vb (qc) → TabB W → Calls Tryz.prog 28 #[va, vb] W (GaveR (qb + qc) W)) := Lib.hid (fun W va vb h1 h2 ht => by
    have := addr_any _ _ _ _ va vb W h1 h2 szb szc (by omega) ht
    exact this)
  have HP1 : Hid (∀ W va vb, IsR W va (qa) → IsR W vb (qb + qc) → TabB W → Calls Tryz.prog 27 #[va, vb] W (GaveR (qa * (qb + qc)) W)) := Lib.hid (fun W va vb h1 h2 ht => by
    have := mulr_any _ _ _ _ va vb W h1 h2 sza szs (by omega) (by omega) ht
    exact this)
  have HP2 : Hid (∀ W va vb, IsR W va (qa) → IsR W vb (qb) → TabB W → Calls Tryz.prog 27 #[va, vb] W (GaveR (qa * qb) W)) := Lib.hid (fun W va vb h1 h2 ht => by
    have := mulr_any _ _ _ _ va vb W h1 h2 sza szb (by omega) (by omega) ht
    exact this)
  have HP3 : Hid (∀ W va vb, IsR W va (qa) → IsR W vb (qc) → TabB W → Calls Tryz.prog 27 #[va, vb] W (GaveR (qa * qc) W)) := Lib.hid (fun W va vb h1 h2 ht => by
    have := mulr_any _ _ _ _ va vb W h1 h2 sza szc (by omega) (by omega) ht
    exact this)
  have HP4 : Hid (∀ W va vb, IsR W va (qa * qb) → IsR W vb (qa * qc) → TabB W → Calls Tryz.prog 28 #[va, vb] W (GaveR (qa * (qb + qc)) W)) := Lib.hid (fun W va vb h1 h2 ht => by
    have := addr_any _ _ _ _ va vb W h1 h2 szp2 szp3 (by omega) ht
    rwa [← Rat.mul_add] at this)
  have HD : Hid (∀ W va vb, IsR W va (qa) → IsR W vb (qb) → TabB W → Calls Tryz.prog 20 #[va, vb] W (GaveR (qa - qb) W)) := Lib.hid (fun W va vb h1 h2 ht => by
    have := subr_any _ _ _ _ va vb W h1 h2 sza szb (by omega) ht
    exact this)
  have HDB : Hid (∀ W va vb, IsR W va (qa - qb) → IsR W vb (qb) → TabB W → Calls Tryz.prog 28 #[va, vb] W (GaveR (qa) W)) := Lib.hid (fun W va vb h1 h2 ht => by
    have := addr_any _ _ _ _ va vb W h1 h2 szd szb (by omega) ht
    rwa [Rat.sub_add_cancel] at this)
  have HF1 : Hid (∀ W va vb, IsR W va (((qa.floor : Int) : Rat)) → IsR W vb (1) → TabB W → Calls Tryz.prog 28 #[va, vb] W (GaveR (((qa.floor : Int) : Rat) + 1) W)) := Lib.hid (fun W va vb h1 h2 ht => by
    have := addr_any _ _ _ _ va vb W h1 h2 szf sz1 (by omega) ht
    exact this)
  have HZ : Hid (∀ W va vb, IsR W va (qa) → IsR W vb (qa) → TabB W → Calls Tryz.prog 20 #[va, vb] W (GaveR (0) W)) := Lib.hid (fun W va vb h1 h2 ht => by
    have := subr_any _ _ _ _ va vb W h1 h2 sza sza (by omega) ht
    rwa [Rat.sub_self] at this)
  have HSP : Hid (∀ W va vb, IsR W va (qa * (qb + qc)) → IsR W vb (qa * (qb + qc)) → Calls Tryz.prog 15 #[va, vb] W fun e w' => e = .returned (.bool true) ∧ Below W.heap.size W w') := Lib.hid (fun W va vb h1 h2 => by
    have := same_any _ _ va vb W h1 h2 (szp1.mono (by omega)) (szp1.mono (by omega))
    rwa [decide_eq_true rfl] at this)
  have HSA : Hid (∀ W va vb, IsR W va (qa) → IsR W vb (qa) → Calls Tryz.prog 15 #[va, vb] W fun e w' => e = .returned (.bool true) ∧ Below W.heap.size W w') := Lib.hid (fun W va vb h1 h2 => by
    have := same_any _ _ va vb W h1 h2 (sza.mono (by omega)) (sza.mono (by omega))
    rwa [decide_eq_true rfl] at this)
  have HS0 : Hid (∀ W va vb, IsR W va (0) → IsR W vb (0) → Calls Tryz.prog 15 #[va, vb] W fun e w' => e = .returned (.bool true) ∧ Below W.heap.size W w') := Lib.hid (fun W va vb h1 h2 => by
    have := same_any _ _ va vb W h1 h2 (sz0.mono (by omega)) (sz0.mono (by omega))
    rwa [decide_eq_true rfl] at this)
  have HFl : Hid (∀ W v, IsR W v qa → Calls Tryz.prog 24 #[v] W (GaveR ((qa.floor : Int) : Rat) W)) := Lib.hid (fun W v h => floor_any qa v W h (sza.mono (by omega)))
  have HCe : Hid (∀ W v, IsR W v qa → Calls Tryz.prog 25 #[v] W (GaveR ((qa.ceil : Int) : Rat) W)) := Lib.hid (fun W v h => ceil_any qa v W h (sza.mono (by omega)))
  have HOne : Hid (∀ W, Calls Tryz.prog 29 #[.int .i64 1] W (GaveR 1 W)) := Lib.hid (fun W => of_r 1 W (by omega) (by omega))
  have HC1 : Hid (∀ W va vb, IsR W va (((qa.floor : Int) : Rat)) → IsR W vb (qa) → Calls Tryz.prog 23 #[va, vb] W fun e w' => e = .returned (.int .i64 (c1)) ∧ Below W.heap.size W w') := Lib.hid (fun W va vb h1 h2 => by
    have := cmpr_any _ _ va vb W h1 h2 (szf.mono (by omega)) (sza.mono (by omega))
    rwa [e1] at this)
  have HC2 : Hid (∀ W va vb, IsR W va (qa) → IsR W vb (((qa.floor : Int) : Rat) + 1) → Calls Tryz.prog 23 #[va, vb] W fun e w' => e = .returned (.int .i64 (-1)) ∧ Below W.heap.size W w') := Lib.hid (fun W va vb h1 h2 => by
    have := cmpr_any _ _ va vb W h1 h2 (sza.mono (by omega)) (szf1.mono (by omega))
    rwa [floor_over] at this)
  have HC3 : Hid (∀ W va vb, IsR W va (((qa.ceil : Int) : Rat)) → IsR W vb (qa) → Calls Tryz.prog 23 #[va, vb] W fun e w' => e = .returned (.int .i64 (c3)) ∧ Below W.heap.size W w') := Lib.hid (fun W va vb h1 h2 => by
    have := cmpr_any _ _ va vb W h1 h2 (szce.mono (by omega)) (sza.mono (by omega))
    rwa [e3] at this)
  have HC4 : Hid (∀ W va vb, IsR W va (qa) → IsR W vb (qb) → Calls Tryz.prog 23 #[va, vb] W fun e w' => e = .returned (.int .i64 (c4)) ∧ Below W.heap.size W w') := Lib.hid (fun W va vb h1 h2 => by
    have := cmpr_any _ _ va vb W h1 h2 (sza.mono (by omega)) (szb.mono (by omega))
    rwa [e4] at this)
  have HC5 : Hid (∀ W va vb, IsR W va (qa - qb) → IsR W vb (0) → Calls Tryz.prog 23 #[va, vb] W fun e w' => e = .returned (.int .i64 (c4)) ∧ Below W.heap.size W w') := Lib.hid (fun W va vb h1 h2 => by
    have := cmpr_any _ _ va vb W h1 h2 (szd.mono (by omega)) (sz0.mono (by omega))
    rwa [sub_sign, e4] at this)
  have HC6 : Hid (∀ W va vb, IsR W va (qb) → IsR W vb (qa) → Calls Tryz.prog 23 #[va, vb] W fun e w' => e = .returned (.int .i64 (-c4)) ∧ Below W.heap.size W w') := Lib.hid (fun W va vb h1 h2 => by
    have := cmpr_any _ _ va vb W h1 h2 (szb.mono (by omega)) (sza.mono (by omega))
    rwa [cmpQ_swap, e4] at this)
  have HDiv : Hid (∀ W va vb, IsR W va qa → IsR W vb qb → Calls Tryz.prog 26 #[va, vb] W fun e w' => e = .returned (.tuple #[.agg #[.bool false, .slice none 0 0, .slice none 0 0], .int .i64 4]) ∧ Below W.heap.size W w') := Lib.hid (fun W va vb h1 h2 => divr_zero _ _ va vb W h1 h2 hb0)
  obtain ⟨FL, hFL⟩ : ∃ R, ((qa.floor : Int) : Rat) = R := ⟨_, rfl⟩
  obtain ⟨CE, hCE⟩ : ∃ R, ((qa.ceil : Int) : Rat) = R := ⟨_, rfl⟩
  obtain ⟨S1, hS1⟩ : ∃ R, qb + qc = R := ⟨_, rfl⟩
  obtain ⟨DD, hDD⟩ : ∃ R, qa - qb = R := ⟨_, rfl⟩
  obtain ⟨P2, hP2⟩ : ∃ R, qa * qb = R := ⟨_, rfl⟩
  obtain ⟨P3, hP3⟩ : ∃ R, qa * qc = R := ⟨_, rfl⟩
  simp only [hFL, hCE, hS1, hDD, hP2, hP3] at HS1 HP1 HP2 HP3 HP4 HD HDB HF1 HZ HSP HFl HCe HC1 HC2 HC3 HC5
  obtain ⟨P1, hP1⟩ : ∃ R, qa * S1 = R := ⟨_, rfl⟩
  obtain ⟨F1, hF1⟩ : ∃ R, FL + 1 = R := ⟨_, rfl⟩
  simp only [hP1, hF1] at HP1 HP4 HSP HF1 HC2
  clear hpa hpb hpc hb0 sza szb szc szs szp1 szp2 szp3 szd szf sz1 sz0 szf1 szce e1 e3 e4 hFL hCE hS1 hDD hP2 hP3 hP1 hF1
  have L1 := Lib.hid l1; have L3 := Lib.hid l3; have L4 := Lib.hid l4
  clear l1 l3 l4
  go_enter Tryz.func5, Tryz.ntmps5
  go_wp2_with fail
  refine HAl.out.mono ?_
  rintro e w1 ⟨rfl, hb1⟩
  have V1 := (Mq.refl w).below hb1
  go_wp2_with fail
  refine (HPaA.out _ (HTB.out _ V1.bel)).mono ?_
  rintro e wA ⟨bA, pA, nA, cA, qA, mA, dA, rfl, rA, hb⟩
  have VA := ((V1.below hb).rcons rA).alloc 28 #[.bool bA, .slice pA nA cA, .slice qA mA dA]
  clear V1 rA hb
  go_wp2_with fail
  refine (HPaB.out _ (HTB.out _ VA.bel)).mono ?_
  rintro e wB ⟨bB, pB, nB, cB, qB, mB, dB, rfl, rB, hb⟩
  have VB := ((VA.below hb).rcons rB).alloc 28 #[.bool bB, .slice pB nB cB, .slice qB mB dB]
  clear VA rB hb
  go_wp2_with fail
  refine (HPaC.out _ (HTB.out _ VB.bel)).mono ?_
  rintro e wC ⟨bC, pC, nC, cC, qC, mC, dC, rfl, rC, hb⟩
  have VC := ((VB.below hb).rcons rC).alloc 28 #[.bool bC, .slice pC nC cC, .slice qC mC dC]
  clear VB rC hb
  have a0 := VC.c0 2 rfl; have a1 := VC.c1 2 rfl; have a2 := VC.c2 2 rfl
  have g0 := VC.c0 1 rfl; have g1 := VC.c1 1 rfl; have g2 := VC.c2 1 rfl
  go_wp2_with fail
  refine (HDiv.out _ _ _ (VC.rat 2 _ _ rfl) (VC.rat 1 _ _ rfl)).mono ?_
  rintro e wD ⟨rfl, hb⟩
  have V4 := (VC.below hb).alloc 28 #[.bool false, .slice none 0 0, .slice none 0 0]
  clear VC hb a0 a1 a2 g0 g1 g2
  go_wp2_with fail
  have V5 := V4.alloc 28 #[.bool false, .slice none 0 0, .slice none 0 0]
  rw [World.size_alloc] at V5
  clear V4
  obtain ⟨bxA, hbxA⟩ : ∃ b, wA.heap.size = b := ⟨_, rfl⟩
  obtain ⟨bxB, hbxB⟩ : ∃ b, wB.heap.size = b := ⟨_, rfl⟩
  obtain ⟨bxC, hbxC⟩ : ∃ b, wC.heap.size = b := ⟨_, rfl⟩
  obtain ⟨bxQ, hbxQ⟩ : ∃ b, wD.heap.size = b := ⟨_, rfl⟩
  obtain ⟨bxZ, hbxZ⟩ : ∃ b, bxQ + 1 = b := ⟨_, rfl⟩
  obtain ⟨W0, hW0⟩ : ∃ W0, (wD.alloc (.cells #[.bool false, .slice none 0 0, .slice none 0 0] 28)).alloc (.cells #[.bool false, .slice none 0 0, .slice none 0 0] 28) = W0 := ⟨_, rfl⟩
  rw [hW0] at V5
  simp only [hbxA, hbxB, hbxC, hbxQ, hbxZ] at V5
  have HW0 := Lib.hid hW0; have HxA := Lib.hid hbxA; have HxB := Lib.hid hbxB; have HxC := Lib.hid hbxC; have HxQ := Lib.hid hbxQ; have HxZ := Lib.hid hbxZ
  clear hW0 hbxA hbxB hbxC hbxQ hbxZ
  simp only [HxA.out, HxB.out, HxC.out, HxQ.out, HxZ.out, HW0.out]
  have V0 := V5.drew
  clear V5
  have HS : Hid (∀ l r W, Mq w [(bxZ, 28, #[.bool false, .slice none 0 0, .slice none 0 0]), (bxQ, 28, #[.bool false, .slice none 0 0, .slice none 0 0]), (bxC, 28, #[.bool bC, .slice pC nC cC, .slice qC mC dC]), (bxB, 28, #[.bool bB, .slice pB nB cB, .slice qB mB dB]), (bxA, 28, #[.bool bA, .slice pA nA cA, .slice qA mA dA])] l r W → W.cell? ⟨bxA, 0, none⟩ = some (.bool bA) ∧ W.cell? ⟨bxA, 1, none⟩ = some (.slice pA nA cA) ∧ W.cell? ⟨bxA, 2, none⟩ = some (.slice qA mA dA) ∧ W.cell? ⟨bxB, 0, none⟩ = some (.bool bB) ∧ W.cell? ⟨bxB, 1, none⟩ = some (.slice pB nB cB) ∧ W.cell? ⟨bxB, 2, none⟩ = some (.slice qB mB dB) ∧ W.cell? ⟨bxC, 0, none⟩ = some (.bool bC) ∧ W.cell? ⟨bxC, 1, none⟩ = some (.slice pC nC cC) ∧ W.cell? ⟨bxC, 2, none⟩ = some (.slice qC mC dC) ∧ W.cell? ⟨bxZ, 0, none⟩ = some (.bool false) ∧ W.cell? ⟨bxZ, 1, none⟩ = some (.slice none 0 0) ∧ W.cell? ⟨bxZ, 2, none⟩ = some (.slice none 0 0)) := Lib.hid (fun l r W h => ⟨h.c0 4 rfl, h.c1 4 rfl, h.c2 4 rfl, h.c0 3 rfl, h.c1 3 rfl, h.c2 3 rfl, h.c0 2 rfl, h.c1 2 rfl, h.c2 2 rfl, h.c0 0 rfl, h.c1 0 rfl, h.c2 0 rfl⟩)
  refine wp_region_held_drew (S := (fun w' => w'.cell? ⟨bxA, 0, none⟩ = some (.bool bA) ∧ w'.cell? ⟨bxA, 1, none⟩ = some (.slice pA nA cA) ∧ w'.cell? ⟨bxA, 2, none⟩ = some (.slice qA mA dA) ∧ w'.cell? ⟨bxB, 0, none⟩ = some (.bool bB) ∧ w'.cell? ⟨bxB, 1, none⟩ = some (.slice pB nB cB) ∧ w'.cell? ⟨bxB, 2, none⟩ = some (.slice qB mB dB) ∧ w'.cell? ⟨bxC, 0, none⟩ = some (.bool bC) ∧ w'.cell? ⟨bxC, 1, none⟩ = some (.slice pC nC cC) ∧ w'.cell? ⟨bxC, 2, none⟩ = some (.slice qC mC dC) ∧ w'.cell? ⟨bxZ, 0, none⟩ = some (.bool false) ∧ w'.cell? ⟨bxZ, 1, none⟩ = some (.slice none 0 0) ∧ w'.cell? ⟨bxZ, 2, none⟩ = some (.slice none 0 0))) (by as_aux_lemma => kernel_rfl) ?_ (fun hHeld => ?_)
  · exact HS.out _ _ _ V0
  refine wpAnyH_take (i := 0) (oi := { dst := some 66, op := Op.load 28 (Operand.tmp 7), type := 28, pos := "law.go:109", after := #[], guard := none }) (v := ?_) rfl (by as_aux_lemma => kernel_rfl) (by as_aux_lemma => kernel_rfl) (by as_aux_lemma => kernel_rfl) (fun _ _ _ h => h) (Or.inl ⟨by rfl, ?_⟩) (by assumption) ?_
  rotate_left
  · intro w hSw; (try dsimp only at hSw); go_simp; (try with_reducible rfl)
  try simp only [Act.put, List.setIfInBounds_toArray, List.set_cons_zero, List.set_cons_succ]
  refine wpAnyH_take (i := 1) (oi := { dst := some 67, op := Op.load 28 (Operand.tmp 9), type := 28, pos := "law.go:109", after := #[], guard := none }) (v := ?_) rfl (by as_aux_lemma => kernel_rfl) (by as_aux_lemma => kernel_rfl) (by as_aux_lemma => kernel_rfl) (fun _ _ _ h => h) (Or.inl ⟨by rfl, ?_⟩) (by assumption) ?_
  rotate_left
  · intro w hSw; (try dsimp only at hSw); go_simp; (try with_reducible rfl)
  try simp only [Act.put, List.setIfInBounds_toArray, List.set_cons_zero, List.set_cons_succ]
  refine wpAnyH_take (i := 2) (oi := { dst := some 68, op := Op.load 28 (Operand.tmp 11), type := 28, pos := "law.go:109", after := #[], guard := none }) (v := ?_) rfl (by as_aux_lemma => kernel_rfl) (by as_aux_lemma => kernel_rfl) (by as_aux_lemma => kernel_rfl) (fun _ _ _ h => h) (Or.inl ⟨by rfl, ?_⟩) (by assumption) ?_
  rotate_left
  · intro w hSw; (try dsimp only at hSw); go_simp; (try with_reducible rfl)
  try simp only [Act.put, List.setIfInBounds_toArray, List.set_cons_zero, List.set_cons_succ]
  refine wpAnyH_take (i := 5) (oi := { dst := some 71, op := Op.load 28 (Operand.tmp 7), type := 28, pos := "law.go:109", after := #[], guard := none }) (v := ?_) rfl (by as_aux_lemma => kernel_rfl) (by as_aux_lemma => kernel_rfl) (by as_aux_lemma => kernel_rfl) (fun _ _ _ h => h) (Or.inl ⟨by rfl, ?_⟩) (by assumption) ?_
  rotate_left
  · intro w hSw; (try dsimp only at hSw); go_simp; (try with_reducible rfl)
  try simp only [Act.put, List.setIfInBounds_toArray, List.set_cons_zero, List.set_cons_succ]
  refine wpAnyH_take (i := 6) (oi := { dst := some 72, op := Op.load 28 (Operand.tmp 9), type := 28, pos := "law.go:109", after := #[], guard := none }) (v := ?_) rfl (by as_aux_lemma => kernel_rfl) (by as_aux_lemma => kernel_rfl) (by as_aux_lemma => kernel_rfl) (fun _ _ _ h => h) (Or.inl ⟨by rfl, ?_⟩) (by assumption) ?_
  rotate_left
  · intro w hSw; (try dsimp only at hSw); go_simp; (try with_reducible rfl)
  try simp only [Act.put, List.setIfInBounds_toArray, List.set_cons_zero, List.set_cons_succ]
  refine wpAnyH_take (i := 8) (oi := { dst := some 74, op := Op.load 28 (Operand.tmp 7), type := 28, pos := "law.go:109", after := #[], guard := none }) (v := ?_) rfl (by as_aux_lemma => kernel_rfl) (by as_aux_lemma => kernel_rfl) (by as_aux_lemma => kernel_rfl) (fun _ _ _ h => h) (Or.inl ⟨by rfl, ?_⟩) (by assumption) ?_
  rotate_left
  · intro w hSw; (try dsimp only at hSw); go_simp; (try with_reducible rfl)
  try simp only [Act.put, List.setIfInBounds_toArray, List.set_cons_zero, List.set_cons_succ]
  refine wpAnyH_take (i := 9) (oi := { dst := some 75, op := Op.load 28 (Operand.tmp 11), type := 28, pos := "law.go:109", after := #[], guard := none }) (v := ?_) rfl (by as_aux_lemma => kernel_rfl) (by as_aux_lemma => kernel_rfl) (by as_aux_lemma => kernel_rfl) (fun _ _ _ h => h) (Or.inl ⟨by rfl, ?_⟩) (by assumption) ?_
  rotate_left
  · intro w hSw; (try dsimp only at hSw); go_simp; (try with_reducible rfl)
  try simp only [Act.put, List.setIfInBounds_toArray, List.set_cons_zero, List.set_cons_succ]
  refine wpAnyH_ready (rs := [3]) (by as_aux_lemma => kernel_rfl) (by simp) ?_
  refine AllReadyH.cons (o := { dst := some 69, op := Op.call { callee := Callee.value (Operand.func 28), args := #[Operand.tmp 67, Operand.tmp 68], argTypes := #[28, 28] }, type := 28, pos := "law.go:109", after := #[{ on := 1, ground := Ground.data }, { on := 2, ground := Ground.data }], guard := none }) rfl (fun K hK => ?_) AllReadyH.nil
  go_simp
  go_at_call 28; refine (HS1.out _ _ _ (V0.rat 1 _ _ rfl) (V0.rat 0 _ _ rfl) (HTB.out _ V0.bel)).mono ?_; rintro e wa3 ⟨v3, rfl, r3, hb⟩; have V3 := (V0.below hb).rcons r3; clear V0 r3 hb
  refine hK.out _ _ ?_ (fun hHeld => ?_)
  · exact HS.out _ _ _ ‹_›
  clear hK K
  try simp only [Act.put, List.setIfInBounds_toArray, List.set_cons_zero, List.set_cons_succ]
  refine wpAnyH_ready (rs := [4]) (by as_aux_lemma => kernel_rfl) (by simp) ?_
  refine AllReadyH.cons (o := { dst := some 70, op := Op.call { callee := Callee.value (Operand.func 27), args := #[Operand.tmp 66, Operand.tmp 69], argTypes := #[28, 28] }, type := 28, pos := "law.go:109", after := #[{ on := 0, ground := Ground.data }, { on := 3, ground := Ground.data }, { on := 3, ground := Ground.chain }], guard := none }) rfl (fun K hK => ?_) AllReadyH.nil
  go_simp
  go_at_call 27; refine (HP1.out _ _ _ (V3.rat 3 _ _ rfl) (V3.rat 0 _ _ rfl) (HTB.out _ V3.bel)).mono ?_; rintro e wa4 ⟨v4, rfl, r4, hb⟩; have V4 := (V3.below hb).rcons r4; clear V3 r4 hb
  refine hK.out _ _ ?_ (fun hHeld => ?_)
  · exact HS.out _ _ _ ‹_›
  clear hK K
  try simp only [Act.put, List.setIfInBounds_toArray, List.set_cons_zero, List.set_cons_succ]
  refine wpAnyH_ready (rs := [7]) (by as_aux_lemma => kernel_rfl) (by simp) ?_
  refine AllReadyH.cons (o := { dst := some 73, op := Op.call { callee := Callee.value (Operand.func 27), args := #[Operand.tmp 71, Operand.tmp 72], argTypes := #[28, 28] }, type := 28, pos := "law.go:109", after := #[{ on := 5, ground := Ground.data }, { on := 6, ground := Ground.data }, { on := 4, ground := Ground.chain }], guard := none }) rfl (fun K hK => ?_) AllReadyH.nil
  go_simp
  go_at_call 27; refine (HP2.out _ _ _ (V4.rat 4 _ _ rfl) (V4.rat 3 _ _ rfl) (HTB.out _ V4.bel)).mono ?_; rintro e wa7 ⟨v7, rfl, r7, hb⟩; have V7 := (V4.below hb).rcons r7; clear V4 r7 hb
  refine hK.out _ _ ?_ (fun hHeld => ?_)
  · exact HS.out _ _ _ ‹_›
  clear hK K
  try simp only [Act.put, List.setIfInBounds_toArray, List.set_cons_zero, List.set_cons_succ]
  refine wpAnyH_ready (rs := [10]) (by as_aux_lemma => kernel_rfl) (by simp) ?_
  refine AllReadyH.cons (o := { dst := some 76, op := Op.call { callee := Callee.value (Operand.func 27), args := #[Operand.tmp 74, Operand.tmp 75], argTypes := #[28, 28] }, type := 28, pos := "law.go:109", after := #[{ on := 8, ground := Ground.data }, { on := 9, ground := Ground.data }, { on := 7, ground := Ground.chain }], guard := none }) rfl (fun K hK => ?_) AllReadyH.nil
  go_simp
  go_at_call 27; refine (HP3.out _ _ _ (V7.rat 5 _ _ rfl) (V7.rat 3 _ _ rfl) (HTB.out _ V7.bel)).mono ?_; rintro e wa10 ⟨v10, rfl, r10, hb⟩; have V10 := (V7.below hb).rcons r10; clear V7 r10 hb
  refine hK.out _ _ ?_ (fun hHeld => ?_)
  · exact HS.out _ _ _ ‹_›
  clear hK K
  try simp only [Act.put, List.setIfInBounds_toArray, List.set_cons_zero, List.set_cons_succ]
  refine wpAnyH_ready (rs := [11]) (by as_aux_lemma => kernel_rfl) (by simp) ?_
  refine AllReadyH.cons (o := { dst := some 77, op := Op.call { callee := Callee.value (Operand.func 28), args := #[Operand.tmp 73, Operand.tmp 76], argTypes := #[28, 28] }, type := 28, pos := "law.go:109", after := #[{ on := 7, ground := Ground.data }, { on := 10, ground := Ground.data }, { on := 10, ground := Ground.chain }], guard := none }) rfl (fun K hK => ?_) AllReadyH.nil
  go_simp
  go_at_call 28; refine (HP4.out _ _ _ (V10.rat 1 _ _ rfl) (V10.rat 0 _ _ rfl) (HTB.out _ V10.bel)).mono ?_; rintro e wa11 ⟨v11, rfl, r11, hb⟩; have V11 := (V10.below hb).rcons r11; clear V10 r11 hb
  refine hK.out _ _ ?_ (fun hHeld => ?_)
  · exact HS.out _ _ _ ‹_›
  clear hK K
  try simp only [Act.put, List.setIfInBounds_toArray, List.set_cons_zero, List.set_cons_succ]
  refine wpAnyH_ready (rs := [12]) (by as_aux_lemma => kernel_rfl) (by simp) ?_
  refine AllReadyH.cons (o := { dst := some 78, op := Op.call { callee := Callee.value (Operand.func 15), args := #[Operand.tmp 70, Operand.tmp 77], argTypes := #[28, 28] }, type := 4, pos := "law.go:109", after := #[{ on := 4, ground := Ground.data }, { on := 11, ground := Ground.data }, { on := 11, ground := Ground.chain }], guard := none }) rfl (fun K hK => ?_) AllReadyH.nil
  go_simp
  go_at_call 15; refine (HSP.out _ _ _ (V11.rat 3 _ _ rfl) (V11.rat 0 _ _ rfl)).mono ?_; rintro e wa12 ⟨rfl, hb⟩; have V12 := V11.below hb; clear V11 hb
  refine hK.out _ _ ?_ (fun hHeld => ?_)
  · exact HS.out _ _ _ ‹_›
  clear hK K
  try simp only [Act.put, List.setIfInBounds_toArray, List.set_cons_zero, List.set_cons_succ]
  refine wpAnyH_take (i := 13) (oi := { dst := some 79, op := Op.move (Operand.tmp 78), type := 4, pos := "law.go:109", after := #[{ on := 12, ground := Ground.data }, { on := 12, ground := Ground.chain }], guard := none }) (v := ?_) rfl (by as_aux_lemma => kernel_rfl) (by as_aux_lemma => kernel_rfl) (by as_aux_lemma => kernel_rfl) (fun _ _ _ h => h) (Or.inl ⟨by rfl, ?_⟩) (by assumption) ?_
  rotate_left
  · intro w hSw; (try dsimp only at hSw); go_simp; (try with_reducible rfl)
  try simp only [Act.put, List.setIfInBounds_toArray, List.set_cons_zero, List.set_cons_succ]
  refine wpAnyH_take (i := 14) (oi := { dst := some 80, op := Op.load 28 (Operand.tmp 7), type := 28, pos := "law.go:109", after := #[{ on := 13, ground := Ground.guard }], guard := some (13, true) }) (v := ?_) rfl (by as_aux_lemma => kernel_rfl) (by as_aux_lemma => kernel_rfl) (by as_aux_lemma => kernel_rfl) (fun _ _ _ h => h) (Or.inl ⟨by rfl, ?_⟩) (by assumption) ?_
  rotate_left
  · intro w hSw; (try dsimp only at hSw); go_simp; (try with_reducible rfl)
  try simp only [Act.put, List.setIfInBounds_toArray, List.set_cons_zero, List.set_cons_succ]
  refine wpAnyH_take (i := 15) (oi := { dst := some 81, op := Op.load 28 (Operand.tmp 9), type := 28, pos := "law.go:109", after := #[{ on := 13, ground := Ground.guard }], guard := some (13, true) }) (v := ?_) rfl (by as_aux_lemma => kernel_rfl) (by as_aux_lemma => kernel_rfl) (by as_aux_lemma => kernel_rfl) (fun _ _ _ h => h) (Or.inl ⟨by rfl, ?_⟩) (by assumption) ?_
  rotate_left
  · intro w hSw; (try dsimp only at hSw); go_simp; (try with_reducible rfl)
  try simp only [Act.put, List.setIfInBounds_toArray, List.set_cons_zero, List.set_cons_succ]
  refine wpAnyH_take (i := 17) (oi := { dst := some 83, op := Op.load 28 (Operand.tmp 9), type := 28, pos := "law.go:109", after := #[{ on := 13, ground := Ground.guard }], guard := some (13, true) }) (v := ?_) rfl (by as_aux_lemma => kernel_rfl) (by as_aux_lemma => kernel_rfl) (by as_aux_lemma => kernel_rfl) (fun _ _ _ h => h) (Or.inl ⟨by rfl, ?_⟩) (by assumption) ?_
  rotate_left
  · intro w hSw; (try dsimp only at hSw); go_simp; (try with_reducible rfl)
  try simp only [Act.put, List.setIfInBounds_toArray, List.set_cons_zero, List.set_cons_succ]
  refine wpAnyH_take (i := 19) (oi := { dst := some 85, op := Op.load 28 (Operand.tmp 7), type := 28, pos := "law.go:109", after := #[{ on := 13, ground := Ground.guard }], guard := some (13, true) }) (v := ?_) rfl (by as_aux_lemma => kernel_rfl) (by as_aux_lemma => kernel_rfl) (by as_aux_lemma => kernel_rfl) (fun _ _ _ h => h) (Or.inl ⟨by rfl, ?_⟩) (by assumption) ?_
  rotate_left
  · intro w hSw; (try dsimp only at hSw); go_simp; (try with_reducible rfl)
  try simp only [Act.put, List.setIfInBounds_toArray, List.set_cons_zero, List.set_cons_succ]
  refine wpAnyH_ready (rs := [16]) (by as_aux_lemma => kernel_rfl) (by simp) ?_
  refine AllReadyH.cons (o := { dst := some 82, op := Op.call { callee := Callee.value (Operand.func 20), args := #[Operand.tmp 80, Operand.tmp 81], argTypes := #[28, 28] }, type := 28, pos := "law.go:109", after := #[{ on := 14, ground := Ground.data }, { on := 15, ground := Ground.data }, { on := 13, ground := Ground.chain }, { on := 13, ground := Ground.guard }], guard := some (13, true) }) rfl (fun K hK => ?_) AllReadyH.nil
  go_simp
  go_at_call 20; refine (HD.out _ _ _ (V12.rat 7 _ _ rfl) (V12.rat 6 _ _ rfl) (HTB.out _ V12.bel)).mono ?_; rintro e wa16 ⟨v16, rfl, r16, hb⟩; have V16 := (V12.below hb).rcons r16; clear V12 r16 hb
  refine hK.out _ _ ?_ (fun hHeld => ?_)
  · exact HS.out _ _ _ ‹_›
  clear hK K
  try simp only [Act.put, List.setIfInBounds_toArray, List.set_cons_zero, List.set_cons_succ]
  refine wpAnyH_ready (rs := [18]) (by as_aux_lemma => kernel_rfl) (by simp) ?_
  refine AllReadyH.cons (o := { dst := some 84, op := Op.call { callee := Callee.value (Operand.func 28), args := #[Operand.tmp 82, Operand.tmp 83], argTypes := #[28, 28] }, type := 28, pos := "law.go:109", after := #[{ on := 16, ground := Ground.data }, { on := 17, ground := Ground.data }, { on := 16, ground := Ground.chain }, { on := 13, ground := Ground.guard }], guard := some (13, true) }) rfl (fun K hK => ?_) AllReadyH.nil
  go_simp
  go_at_call 28; refine (HDB.out _ _ _ (V16.rat 0 _ _ rfl) (V16.rat 7 _ _ rfl) (HTB.out _ V16.bel)).mono ?_; rintro e wa18 ⟨v18, rfl, r18, hb⟩; have V18 := (V16.below hb).rcons r18; clear V16 r18 hb
  refine hK.out _ _ ?_ (fun hHeld => ?_)
  · exact HS.out _ _ _ ‹_›
  clear hK K
  try simp only [Act.put, List.setIfInBounds_toArray, List.set_cons_zero, List.set_cons_succ]
  refine wpAnyH_ready (rs := [20]) (by as_aux_lemma => kernel_rfl) (by simp) ?_
  refine AllReadyH.cons (o := { dst := some 86, op := Op.call { callee := Callee.value (Operand.func 15), args := #[Operand.tmp 84, Operand.tmp 85], argTypes := #[28, 28] }, type := 4, pos := "law.go:109", after := #[{ on := 18, ground := Ground.data }, { on := 19, ground := Ground.data }, { on := 18, ground := Ground.chain }, { on := 13, ground := Ground.guard }], guard := some (13, true) }) rfl (fun K hK => ?_) AllReadyH.nil
  go_simp
  go_at_call 15; refine (HSA.out _ _ _ (V18.rat 0 _ _ rfl) (V18.rat 9 _ _ rfl)).mono ?_; rintro e wa20 ⟨rfl, hb⟩; have V20 := V18.below hb; clear V18 hb
  refine hK.out _ _ ?_ (fun hHeld => ?_)
  · exact HS.out _ _ _ ‹_›
  clear hK K
  try simp only [Act.put, List.setIfInBounds_toArray, List.set_cons_zero, List.set_cons_succ]
  refine wpAnyH_take (i := 21) (oi := { dst := some 87, op := Op.pick (Operand.tmp 79) (Operand.tmp 86) (Operand.const (Value.bool false)), type := 4, pos := "law.go:109", after := #[{ on := 13, ground := Ground.data }, { on := 20, ground := Ground.data }], guard := none }) (v := ?_) rfl (by as_aux_lemma => kernel_rfl) (by as_aux_lemma => kernel_rfl) (by as_aux_lemma => kernel_rfl) (fun _ _ _ h => h) (Or.inl ⟨by rfl, ?_⟩) (by assumption) ?_
  rotate_left
  · intro w hSw; (try dsimp only at hSw); go_simp; (try with_reducible rfl)
  try simp only [Act.put, List.setIfInBounds_toArray, List.set_cons_zero, List.set_cons_succ]
  refine wpAnyH_take (i := 22) (oi := { dst := some 88, op := Op.move (Operand.tmp 87), type := 4, pos := "law.go:109", after := #[{ on := 21, ground := Ground.data }, { on := 20, ground := Ground.chain }], guard := none }) (v := ?_) rfl (by as_aux_lemma => kernel_rfl) (by as_aux_lemma => kernel_rfl) (by as_aux_lemma => kernel_rfl) (fun _ _ _ h => h) (Or.inl ⟨by rfl, ?_⟩) (by assumption) ?_
  rotate_left
  · intro w hSw; (try dsimp only at hSw); go_simp; (try with_reducible rfl)
  try simp only [Act.put, List.setIfInBounds_toArray, List.set_cons_zero, List.set_cons_succ]
  refine wpAnyH_take (i := 23) (oi := { dst := some 89, op := Op.move (Operand.tmp 14), type := 29, pos := "law.go:109", after := #[{ on := 22, ground := Ground.guard }], guard := some (22, true) }) (v := ?_) rfl (by as_aux_lemma => kernel_rfl) (by as_aux_lemma => kernel_rfl) (by as_aux_lemma => kernel_rfl) (fun _ _ _ h => h) (Or.inl ⟨by rfl, ?_⟩) (by assumption) ?_
  rotate_left
  · intro w hSw; (try dsimp only at hSw); go_simp; (try with_reducible rfl)
  try simp only [Act.put, List.setIfInBounds_toArray, List.set_cons_zero, List.set_cons_succ]
  refine wpAnyH_take (i := 24) (oi := { dst := some 90, op := Op.binOp BinOp.neq 29 (Operand.tmp 89) (Operand.const (Value.int IntKind.i64 0)) 29, type := 4, pos := "law.go:109", after := #[{ on := 23, ground := Ground.data }, { on := 22, ground := Ground.guard }], guard := some (22, true) }) (v := ?_) rfl (by as_aux_lemma => kernel_rfl) (by as_aux_lemma => kernel_rfl) (by as_aux_lemma => kernel_rfl) (fun _ _ _ h => h) (Or.inl ⟨by rfl, ?_⟩) (by assumption) ?_
  rotate_left
  · intro w hSw; (try dsimp only at hSw); go_simp; (try with_reducible rfl)
  try simp only [Act.put, List.setIfInBounds_toArray, List.set_cons_zero, List.set_cons_succ]
  refine wpAnyH_take (i := 25) (oi := { dst := some 91, op := Op.move (Operand.tmp 90), type := 4, pos := "law.go:109", after := #[{ on := 24, ground := Ground.data }, { on := 22, ground := Ground.chain }, { on := 22, ground := Ground.guard }], guard := some (22, true) }) (v := ?_) rfl (by as_aux_lemma => kernel_rfl) (by as_aux_lemma => kernel_rfl) (by as_aux_lemma => kernel_rfl) (fun _ _ _ h => h) (Or.inl ⟨by rfl, ?_⟩) (by assumption) ?_
  rotate_left
  · intro w hSw; (try dsimp only at hSw); go_simp; (try with_reducible rfl)
  try simp only [Act.put, List.setIfInBounds_toArray, List.set_cons_zero, List.set_cons_succ]
  refine wpAnyH_take (i := 26) (oi := { dst := some 92, op := Op.load 28 (Operand.tmp 13), type := 28, pos := "law.go:109", after := #[{ on := 25, ground := Ground.guard }], guard := some (25, false) }) (v := undef) rfl (by as_aux_lemma => kernel_rfl) (by as_aux_lemma => kernel_rfl) (by as_aux_lemma => kernel_rfl) (fun _ _ _ h => h) (Or.inr ⟨by rfl, rfl⟩) (by assumption) ?_
  try simp only [Act.put, List.setIfInBounds_toArray, List.set_cons_zero, List.set_cons_succ]
  refine wpAnyH_take (i := 27) (oi := { dst := some 93, op := Op.load 28 (Operand.tmp 9), type := 28, pos := "law.go:109", after := #[{ on := 25, ground := Ground.guard }], guard := some (25, false) }) (v := undef) rfl (by as_aux_lemma => kernel_rfl) (by as_aux_lemma => kernel_rfl) (by as_aux_lemma => kernel_rfl) (fun _ _ _ h => h) (Or.inr ⟨by rfl, rfl⟩) (by assumption) ?_
  try simp only [Act.put, List.setIfInBounds_toArray, List.set_cons_zero, List.set_cons_succ]
  refine wpAnyH_take (i := 28) (oi := { dst := some 94, op := Op.call { callee := Callee.value (Operand.func 27), args := #[Operand.tmp 92, Operand.tmp 93], argTypes := #[28, 28] }, type := 28, pos := "law.go:109", after := #[{ on := 26, ground := Ground.data }, { on := 27, ground := Ground.data }, { on := 25, ground := Ground.chain }, { on := 25, ground := Ground.guard }], guard := some (25, false) }) (v := undef) rfl (by as_aux_lemma => kernel_rfl) (by as_aux_lemma => kernel_rfl) (by as_aux_lemma => kernel_rfl) (fun _ _ _ h => h) (Or.inr ⟨by rfl, rfl⟩) (by assumption) ?_
  try simp only [Act.put, List.setIfInBounds_toArray, List.set_cons_zero, List.set_cons_succ]
  refine wpAnyH_take (i := 29) (oi := { dst := some 95, op := Op.load 28 (Operand.tmp 7), type := 28, pos := "law.go:109", after := #[{ on := 25, ground := Ground.guard }], guard := some (25, false) }) (v := undef) rfl (by as_aux_lemma => kernel_rfl) (by as_aux_lemma => kernel_rfl) (by as_aux_lemma => kernel_rfl) (fun _ _ _ h => h) (Or.inr ⟨by rfl, rfl⟩) (by assumption) ?_
  try simp only [Act.put, List.setIfInBounds_toArray, List.set_cons_zero, List.set_cons_succ]
  refine wpAnyH_take (i := 30) (oi := { dst := some 96, op := Op.call { callee := Callee.value (Operand.func 15), args := #[Operand.tmp 94, Operand.tmp 95], argTypes := #[28, 28] }, type := 4, pos := "law.go:109", after := #[{ on := 28, ground := Ground.data }, { on := 29, ground := Ground.data }, { on := 28, ground := Ground.chain }, { on := 25, ground := Ground.guard }], guard := some (25, false) }) (v := undef) rfl (by as_aux_lemma => kernel_rfl) (by as_aux_lemma => kernel_rfl) (by as_aux_lemma => kernel_rfl) (fun _ _ _ h => h) (Or.inr ⟨by rfl, rfl⟩) (by assumption) ?_
  try simp only [Act.put, List.setIfInBounds_toArray, List.set_cons_zero, List.set_cons_succ]
  refine wpAnyH_take (i := 31) (oi := { dst := some 97, op := Op.pick (Operand.tmp 91) (Operand.const (Value.bool true)) (Operand.tmp 96), type := 4, pos := "law.go:109", after := #[{ on := 25, ground := Ground.data }, { on := 30, ground := Ground.data }, { on := 22, ground := Ground.guard }], guard := some (22, true) }) (v := ?_) rfl (by as_aux_lemma => kernel_rfl) (by as_aux_lemma => kernel_rfl) (by as_aux_lemma => kernel_rfl) (fun _ _ _ h => h) (Or.inl ⟨by rfl, ?_⟩) (by assumption) ?_
  rotate_left
  · intro w hSw; (try dsimp only at hSw); go_simp; (try with_reducible rfl)
  try simp only [Act.put, List.setIfInBounds_toArray, List.set_cons_zero, List.set_cons_succ]
  refine wpAnyH_take (i := 32) (oi := { dst := some 98, op := Op.pick (Operand.tmp 88) (Operand.tmp 97) (Operand.const (Value.bool false)), type := 4, pos := "law.go:109", after := #[{ on := 22, ground := Ground.data }, { on := 31, ground := Ground.data }], guard := none }) (v := ?_) rfl (by as_aux_lemma => kernel_rfl) (by as_aux_lemma => kernel_rfl) (by as_aux_lemma => kernel_rfl) (fun _ _ _ h => h) (Or.inl ⟨by rfl, ?_⟩) (by assumption) ?_
  rotate_left
  · intro w hSw; (try dsimp only at hSw); go_simp; (try with_reducible rfl)
  try simp only [Act.put, List.setIfInBounds_toArray, List.set_cons_zero, List.set_cons_succ]
  refine wpAnyH_take (i := 33) (oi := { dst := some 99, op := Op.move (Operand.tmp 98), type := 4, pos := "law.go:109", after := #[{ on := 32, ground := Ground.data }, { on := 30, ground := Ground.chain }], guard := none }) (v := ?_) rfl (by as_aux_lemma => kernel_rfl) (by as_aux_lemma => kernel_rfl) (by as_aux_lemma => kernel_rfl) (fun _ _ _ h => h) (Or.inl ⟨by rfl, ?_⟩) (by assumption) ?_
  rotate_left
  · intro w hSw; (try dsimp only at hSw); go_simp; (try with_reducible rfl)
  try simp only [Act.put, List.setIfInBounds_toArray, List.set_cons_zero, List.set_cons_succ]
  refine wpAnyH_take (i := 34) (oi := { dst := some 100, op := Op.load 28 (Operand.tmp 7), type := 28, pos := "law.go:109", after := #[{ on := 33, ground := Ground.guard }], guard := some (33, true) }) (v := ?_) rfl (by as_aux_lemma => kernel_rfl) (by as_aux_lemma => kernel_rfl) (by as_aux_lemma => kernel_rfl) (fun _ _ _ h => h) (Or.inl ⟨by rfl, ?_⟩) (by assumption) ?_
  rotate_left
  · intro w hSw; (try dsimp only at hSw); go_simp; (try with_reducible rfl)
  try simp only [Act.put, List.setIfInBounds_toArray, List.set_cons_zero, List.set_cons_succ]
  refine wpAnyH_take (i := 36) (oi := { dst := some 102, op := Op.load 28 (Operand.tmp 7), type := 28, pos := "law.go:109", after := #[{ on := 33, ground := Ground.guard }], guard := some (33, true) }) (v := ?_) rfl (by as_aux_lemma => kernel_rfl) (by as_aux_lemma => kernel_rfl) (by as_aux_lemma => kernel_rfl) (fun _ _ _ h => h) (Or.inl ⟨by rfl, ?_⟩) (by assumption) ?_
  rotate_left
  · intro w hSw; (try dsimp only at hSw); go_simp; (try with_reducible rfl)
  try simp only [Act.put, List.setIfInBounds_toArray, List.set_cons_zero, List.set_cons_succ]
  refine wpAnyH_ready (rs := [35]) (by as_aux_lemma => kernel_rfl) (by simp) ?_
  refine AllReadyH.cons (o := { dst := some 101, op := Op.call { callee := Callee.value (Operand.func 24), args := #[Operand.tmp 100], argTypes := #[28] }, type := 28, pos := "law.go:109", after := #[{ on := 34, ground := Ground.data }, { on := 33, ground := Ground.chain }, { on := 33, ground := Ground.guard }], guard := some (33, true) }) rfl (fun K hK => ?_) AllReadyH.nil
  go_simp
  go_at_call 24; refine (HFl.out _ _ (V20.rat 9 _ _ rfl)).mono ?_; rintro e wa35 ⟨v35, rfl, r35, hb⟩; have V35 := (V20.below hb).rcons r35; clear V20 r35 hb
  refine hK.out _ _ ?_ (fun hHeld => ?_)
  · exact HS.out _ _ _ ‹_›
  clear hK K
  try simp only [Act.put, List.setIfInBounds_toArray, List.set_cons_zero, List.set_cons_succ]
  refine wpAnyH_ready (rs := [37]) (by as_aux_lemma => kernel_rfl) (by simp) ?_
  refine AllReadyH.cons (o := { dst := some 103, op := Op.call { callee := Callee.value (Operand.func 23), args := #[Operand.tmp 101, Operand.tmp 102], argTypes := #[28, 28] }, type := 3, pos := "law.go:109", after := #[{ on := 35, ground := Ground.data }, { on := 36, ground := Ground.data }, { on := 35, ground := Ground.chain }, { on := 33, ground := Ground.guard }], guard := some (33, true) }) rfl (fun K hK => ?_) AllReadyH.nil
  go_simp
  go_at_call 23; refine (HC1.out _ _ _ (V35.rat 0 _ _ rfl) (V35.rat 10 _ _ rfl)).mono ?_; rintro e wa37 ⟨rfl, hb⟩; have V37 := V35.below hb; clear V35 hb
  refine hK.out _ _ ?_ (fun hHeld => ?_)
  · exact HS.out _ _ _ ‹_›
  clear hK K
  try simp only [Act.put, List.setIfInBounds_toArray, List.set_cons_zero, List.set_cons_succ]
  refine wpAnyH_take (i := 38) (oi := { dst := some 104, op := Op.binOp BinOp.leq 3 (Operand.tmp 103) (Operand.const (Value.int IntKind.i64 0)) 3, type := 4, pos := "law.go:109", after := #[{ on := 37, ground := Ground.data }, { on := 33, ground := Ground.guard }], guard := some (33, true) }) (v := .bool true) rfl (by as_aux_lemma => kernel_rfl) (by as_aux_lemma => kernel_rfl) (by as_aux_lemma => kernel_rfl) (fun _ _ _ h => h) (Or.inl ⟨by rfl, ?_⟩) (by assumption) ?_
  · intro w hSw; (try dsimp only at hSw); go_simp; exact of_decide_eq_true L1.out
  try simp only [Act.put, List.setIfInBounds_toArray, List.set_cons_zero, List.set_cons_succ]
  refine wpAnyH_take (i := 39) (oi := { dst := some 105, op := Op.pick (Operand.tmp 99) (Operand.tmp 104) (Operand.const (Value.bool false)), type := 4, pos := "law.go:109", after := #[{ on := 33, ground := Ground.data }, { on := 38, ground := Ground.data }], guard := none }) (v := ?_) rfl (by as_aux_lemma => kernel_rfl) (by as_aux_lemma => kernel_rfl) (by as_aux_lemma => kernel_rfl) (fun _ _ _ h => h) (Or.inl ⟨by rfl, ?_⟩) (by assumption) ?_
  rotate_left
  · intro w hSw; (try dsimp only at hSw); go_simp; (try with_reducible rfl)
  try simp only [Act.put, List.setIfInBounds_toArray, List.set_cons_zero, List.set_cons_succ]
  refine wpAnyH_take (i := 40) (oi := { dst := some 106, op := Op.move (Operand.tmp 105), type := 4, pos := "law.go:109", after := #[{ on := 39, ground := Ground.data }, { on := 37, ground := Ground.chain }], guard := none }) (v := ?_) rfl (by as_aux_lemma => kernel_rfl) (by as_aux_lemma => kernel_rfl) (by as_aux_lemma => kernel_rfl) (fun _ _ _ h => h) (Or.inl ⟨by rfl, ?_⟩) (by assumption) ?_
  rotate_left
  · intro w hSw; (try dsimp only at hSw); go_simp; (try with_reducible rfl)
  try simp only [Act.put, List.setIfInBounds_toArray, List.set_cons_zero, List.set_cons_succ]
  refine wpAnyH_take (i := 41) (oi := { dst := some 107, op := Op.load 28 (Operand.tmp 7), type := 28, pos := "law.go:109", after := #[{ on := 40, ground := Ground.guard }], guard := some (40, true) }) (v := ?_) rfl (by as_aux_lemma => kernel_rfl) (by as_aux_lemma => kernel_rfl) (by as_aux_lemma => kernel_rfl) (fun _ _ _ h => h) (Or.inl ⟨by rfl, ?_⟩) (by assumption) ?_
  rotate_left
  · intro w hSw; (try dsimp only at hSw); go_simp; (try with_reducible rfl)
  try simp only [Act.put, List.setIfInBounds_toArray, List.set_cons_zero, List.set_cons_succ]
  refine wpAnyH_take (i := 42) (oi := { dst := some 108, op := Op.load 28 (Operand.tmp 7), type := 28, pos := "law.go:109", after := #[{ on := 40, ground := Ground.guard }], guard := some (40, true) }) (v := ?_) rfl (by as_aux_lemma => kernel_rfl) (by as_aux_lemma => kernel_rfl) (by as_aux_lemma => kernel_rfl) (fun _ _ _ h => h) (Or.inl ⟨by rfl, ?_⟩) (by assumption) ?_
  rotate_left
  · intro w hSw; (try dsimp only at hSw); go_simp; (try with_reducible rfl)
  try simp only [Act.put, List.setIfInBounds_toArray, List.set_cons_zero, List.set_cons_succ]
  refine wpAnyH_ready (rs := [43]) (by as_aux_lemma => kernel_rfl) (by simp) ?_
  refine AllReadyH.cons (o := { dst := some 109, op := Op.call { callee := Callee.value (Operand.func 24), args := #[Operand.tmp 108], argTypes := #[28] }, type := 28, pos := "law.go:109", after := #[{ on := 42, ground := Ground.data }, { on := 40, ground := Ground.chain }, { on := 40, ground := Ground.guard }], guard := some (40, true) }) rfl (fun K hK => ?_) AllReadyH.nil
  go_simp
  go_at_call 24; refine (HFl.out _ _ (V37.rat 10 _ _ rfl)).mono ?_; rintro e wa43 ⟨v43, rfl, r43, hb⟩; have V43 := (V37.below hb).rcons r43; clear V37 r43 hb
  refine hK.out _ _ ?_ (fun hHeld => ?_)
  · exact HS.out _ _ _ ‹_›
  clear hK K
  try simp only [Act.put, List.setIfInBounds_toArray, List.set_cons_zero, List.set_cons_succ]
  refine wpAnyH_ready (rs := [44]) (by as_aux_lemma => kernel_rfl) (by simp) ?_
  refine AllReadyH.cons (o := { dst := some 110, op := Op.call { callee := Callee.value (Operand.func 29), args := #[Operand.const (Value.int IntKind.i64 1)], argTypes := #[3] }, type := 28, pos := "law.go:109", after := #[{ on := 43, ground := Ground.chain }, { on := 40, ground := Ground.guard }], guard := some (40, true) }) rfl (fun K hK => ?_) AllReadyH.nil
  go_simp
  go_at_call 29; refine (HOne.out _).mono ?_; rintro e wa44 ⟨v44, rfl, r44, hb⟩; have V44 := (V43.below hb).rcons r44; clear V43 r44 hb
  refine hK.out _ _ ?_ (fun hHeld => ?_)
  · exact HS.out _ _ _ ‹_›
  clear hK K
  try simp only [Act.put, List.setIfInBounds_toArray, List.set_cons_zero, List.set_cons_succ]
  refine wpAnyH_ready (rs := [45]) (by as_aux_lemma => kernel_rfl) (by simp) ?_
  refine AllReadyH.cons (o := { dst := some 111, op := Op.call { callee := Callee.value (Operand.func 28), args := #[Operand.tmp 109, Operand.tmp 110], argTypes := #[28, 28] }, type := 28, pos := "law.go:109", after := #[{ on := 43, ground := Ground.data }, { on := 44, ground := Ground.data }, { on := 44, ground := Ground.chain }, { on := 40, ground := Ground.guard }], guard := some (40, true) }) rfl (fun K hK => ?_) AllReadyH.nil
  go_simp
  go_at_call 28; refine (HF1.out _ _ _ (V44.rat 1 _ _ rfl) (V44.rat 0 _ _ rfl) (HTB.out _ V44.bel)).mono ?_; rintro e wa45 ⟨v45, rfl, r45, hb⟩; have V45 := (V44.below hb).rcons r45; clear V44 r45 hb
  refine hK.out _ _ ?_ (fun hHeld => ?_)
  · exact HS.out _ _ _ ‹_›
  clear hK K
  try simp only [Act.put, List.setIfInBounds_toArray, List.set_cons_zero, List.set_cons_succ]
  refine wpAnyH_ready (rs := [46]) (by as_aux_lemma => kernel_rfl) (by simp) ?_
  refine AllReadyH.cons (o := { dst := some 112, op := Op.call { callee := Callee.value (Operand.func 23), args := #[Operand.tmp 107, Operand.tmp 111], argTypes := #[28, 28] }, type := 3, pos := "law.go:109", after := #[{ on := 41, ground := Ground.data }, { on := 45, ground := Ground.data }, { on := 45, ground := Ground.chain }, { on := 40, ground := Ground.guard }], guard := some (40, true) }) rfl (fun K hK => ?_) AllReadyH.nil
  go_simp
  go_at_call 23; refine (HC2.out _ _ _ (V45.rat 13 _ _ rfl) (V45.rat 0 _ _ rfl)).mono ?_; rintro e wa46 ⟨rfl, hb⟩; have V46 := V45.below hb; clear V45 hb
  refine hK.out _ _ ?_ (fun hHeld => ?_)
  · exact HS.out _ _ _ ‹_›
  clear hK K
  try simp only [Act.put, List.setIfInBounds_toArray, List.set_cons_zero, List.set_cons_succ]
  refine wpAnyH_take (i := 47) (oi := { dst := some 113, op := Op.binOp BinOp.lss 3 (Operand.tmp 112) (Operand.const (Value.int IntKind.i64 0)) 3, type := 4, pos := "law.go:109", after := #[{ on := 46, ground := Ground.data }, { on := 40, ground := Ground.guard }], guard := some (40, true) }) (v := ?_) rfl (by as_aux_lemma => kernel_rfl) (by as_aux_lemma => kernel_rfl) (by as_aux_lemma => kernel_rfl) (fun _ _ _ h => h) (Or.inl ⟨by rfl, ?_⟩) (by assumption) ?_
  rotate_left
  · intro w hSw; (try dsimp only at hSw); go_simp; (try with_reducible rfl)
  try simp only [Act.put, List.setIfInBounds_toArray, List.set_cons_zero, List.set_cons_succ]
  refine wpAnyH_take (i := 48) (oi := { dst := some 114, op := Op.pick (Operand.tmp 106) (Operand.tmp 113) (Operand.const (Value.bool false)), type := 4, pos := "law.go:109", after := #[{ on := 40, ground := Ground.data }, { on := 47, ground := Ground.data }], guard := none }) (v := ?_) rfl (by as_aux_lemma => kernel_rfl) (by as_aux_lemma => kernel_rfl) (by as_aux_lemma => kernel_rfl) (fun _ _ _ h => h) (Or.inl ⟨by rfl, ?_⟩) (by assumption) ?_
  rotate_left
  · intro w hSw; (try dsimp only at hSw); go_simp; (try with_reducible rfl)
  try simp only [Act.put, List.setIfInBounds_toArray, List.set_cons_zero, List.set_cons_succ]
  refine wpAnyH_take (i := 49) (oi := { dst := some 115, op := Op.move (Operand.tmp 114), type := 4, pos := "law.go:109", after := #[{ on := 48, ground := Ground.data }, { on := 46, ground := Ground.chain }], guard := none }) (v := ?_) rfl (by as_aux_lemma => kernel_rfl) (by as_aux_lemma => kernel_rfl) (by as_aux_lemma => kernel_rfl) (fun _ _ _ h => h) (Or.inl ⟨by rfl, ?_⟩) (by assumption) ?_
  rotate_left
  · intro w hSw; (try dsimp only at hSw); go_simp; (try with_reducible rfl)
  try simp only [Act.put, List.setIfInBounds_toArray, List.set_cons_zero, List.set_cons_succ]
  refine wpAnyH_take (i := 50) (oi := { dst := some 116, op := Op.load 28 (Operand.tmp 7), type := 28, pos := "law.go:109", after := #[{ on := 49, ground := Ground.guard }], guard := some (49, true) }) (v := ?_) rfl (by as_aux_lemma => kernel_rfl) (by as_aux_lemma => kernel_rfl) (by as_aux_lemma => kernel_rfl) (fun _ _ _ h => h) (Or.inl ⟨by rfl, ?_⟩) (by assumption) ?_
  rotate_left
  · intro w hSw; (try dsimp only at hSw); go_simp; (try with_reducible rfl)
  try simp only [Act.put, List.setIfInBounds_toArray, List.set_cons_zero, List.set_cons_succ]
  refine wpAnyH_take (i := 52) (oi := { dst := some 118, op := Op.load 28 (Operand.tmp 7), type := 28, pos := "law.go:109", after := #[{ on := 49, ground := Ground.guard }], guard := some (49, true) }) (v := ?_) rfl (by as_aux_lemma => kernel_rfl) (by as_aux_lemma => kernel_rfl) (by as_aux_lemma => kernel_rfl) (fun _ _ _ h => h) (Or.inl ⟨by rfl, ?_⟩) (by assumption) ?_
  rotate_left
  · intro w hSw; (try dsimp only at hSw); go_simp; (try with_reducible rfl)
  try simp only [Act.put, List.setIfInBounds_toArray, List.set_cons_zero, List.set_cons_succ]
  refine wpAnyH_ready (rs := [51]) (by as_aux_lemma => kernel_rfl) (by simp) ?_
  refine AllReadyH.cons (o := { dst := some 117, op := Op.call { callee := Callee.value (Operand.func 25), args := #[Operand.tmp 116], argTypes := #[28] }, type := 28, pos := "law.go:109", after := #[{ on := 50, ground := Ground.data }, { on := 49, ground := Ground.chain }, { on := 49, ground := Ground.guard }], guard := some (49, true) }) rfl (fun K hK => ?_) AllReadyH.nil
  go_simp
  go_at_call 25; refine (HCe.out _ _ (V46.rat 13 _ _ rfl)).mono ?_; rintro e wa51 ⟨v51, rfl, r51, hb⟩; have V51 := (V46.below hb).rcons r51; clear V46 r51 hb
  refine hK.out _ _ ?_ (fun hHeld => ?_)
  · exact HS.out _ _ _ ‹_›
  clear hK K
  try simp only [Act.put, List.setIfInBounds_toArray, List.set_cons_zero, List.set_cons_succ]
  refine wpAnyH_ready (rs := [53]) (by as_aux_lemma => kernel_rfl) (by simp) ?_
  refine AllReadyH.cons (o := { dst := some 119, op := Op.call { callee := Callee.value (Operand.func 23), args := #[Operand.tmp 117, Operand.tmp 118], argTypes := #[28, 28] }, type := 3, pos := "law.go:109", after := #[{ on := 51, ground := Ground.data }, { on := 52, ground := Ground.data }, { on := 51, ground := Ground.chain }, { on := 49, ground := Ground.guard }], guard := some (49, true) }) rfl (fun K hK => ?_) AllReadyH.nil
  go_simp
  go_at_call 23; refine (HC3.out _ _ _ (V51.rat 0 _ _ rfl) (V51.rat 14 _ _ rfl)).mono ?_; rintro e wa53 ⟨rfl, hb⟩; have V53 := V51.below hb; clear V51 hb
  refine hK.out _ _ ?_ (fun hHeld => ?_)
  · exact HS.out _ _ _ ‹_›
  clear hK K
  try simp only [Act.put, List.setIfInBounds_toArray, List.set_cons_zero, List.set_cons_succ]
  refine wpAnyH_take (i := 54) (oi := { dst := some 120, op := Op.binOp BinOp.geq 3 (Operand.tmp 119) (Operand.const (Value.int IntKind.i64 0)) 3, type := 4, pos := "law.go:109", after := #[{ on := 53, ground := Ground.data }, { on := 49, ground := Ground.guard }], guard := some (49, true) }) (v := .bool true) rfl (by as_aux_lemma => kernel_rfl) (by as_aux_lemma => kernel_rfl) (by as_aux_lemma => kernel_rfl) (fun _ _ _ h => h) (Or.inl ⟨by rfl, ?_⟩) (by assumption) ?_
  · intro w hSw; (try dsimp only at hSw); go_simp; exact of_decide_eq_true L3.out
  try simp only [Act.put, List.setIfInBounds_toArray, List.set_cons_zero, List.set_cons_succ]
  refine wpAnyH_take (i := 55) (oi := { dst := some 121, op := Op.pick (Operand.tmp 115) (Operand.tmp 120) (Operand.const (Value.bool false)), type := 4, pos := "law.go:109", after := #[{ on := 49, ground := Ground.data }, { on := 54, ground := Ground.data }], guard := none }) (v := ?_) rfl (by as_aux_lemma => kernel_rfl) (by as_aux_lemma => kernel_rfl) (by as_aux_lemma => kernel_rfl) (fun _ _ _ h => h) (Or.inl ⟨by rfl, ?_⟩) (by assumption) ?_
  rotate_left
  · intro w hSw; (try dsimp only at hSw); go_simp; (try with_reducible rfl)
  try simp only [Act.put, List.setIfInBounds_toArray, List.set_cons_zero, List.set_cons_succ]
  refine wpAnyH_take (i := 56) (oi := { dst := some 122, op := Op.move (Operand.tmp 121), type := 4, pos := "law.go:109", after := #[{ on := 55, ground := Ground.data }, { on := 53, ground := Ground.chain }], guard := none }) (v := ?_) rfl (by as_aux_lemma => kernel_rfl) (by as_aux_lemma => kernel_rfl) (by as_aux_lemma => kernel_rfl) (fun _ _ _ h => h) (Or.inl ⟨by rfl, ?_⟩) (by assumption) ?_
  rotate_left
  · intro w hSw; (try dsimp only at hSw); go_simp; (try with_reducible rfl)
  try simp only [Act.put, List.setIfInBounds_toArray, List.set_cons_zero, List.set_cons_succ]
  refine wpAnyH_take (i := 57) (oi := { dst := some 123, op := Op.load 28 (Operand.tmp 7), type := 28, pos := "law.go:109", after := #[{ on := 56, ground := Ground.guard }], guard := some (56, true) }) (v := ?_) rfl (by as_aux_lemma => kernel_rfl) (by as_aux_lemma => kernel_rfl) (by as_aux_lemma => kernel_rfl) (fun _ _ _ h => h) (Or.inl ⟨by rfl, ?_⟩) (by assumption) ?_
  rotate_left
  · intro w hSw; (try dsimp only at hSw); go_simp; (try with_reducible rfl)
  try simp only [Act.put, List.setIfInBounds_toArray, List.set_cons_zero, List.set_cons_succ]
  refine wpAnyH_take (i := 58) (oi := { dst := some 124, op := Op.load 28 (Operand.tmp 7), type := 28, pos := "law.go:109", after := #[{ on := 56, ground := Ground.guard }], guard := some (56, true) }) (v := ?_) rfl (by as_aux_lemma => kernel_rfl) (by as_aux_lemma => kernel_rfl) (by as_aux_lemma => kernel_rfl) (fun _ _ _ h => h) (Or.inl ⟨by rfl, ?_⟩) (by assumption) ?_
  rotate_left
  · intro w hSw; (try dsimp only at hSw); go_simp; (try with_reducible rfl)
  try simp only [Act.put, List.setIfInBounds_toArray, List.set_cons_zero, List.set_cons_succ]
  refine wpAnyH_take (i := 60) (oi := { dst := some 126, op := Op.load 28 (Operand.tmp 15), type := 28, pos := "law.go:109", after := #[{ on := 56, ground := Ground.guard }], guard := some (56, true) }) (v := ?_) rfl (by as_aux_lemma => kernel_rfl) (by as_aux_lemma => kernel_rfl) (by as_aux_lemma => kernel_rfl) (fun _ _ _ h => h) (Or.inl ⟨by rfl, ?_⟩) (by assumption) ?_
  rotate_left
  · intro w hSw; (try dsimp only at hSw); go_simp; (try with_reducible rfl)
  try simp only [Act.put, List.setIfInBounds_toArray, List.set_cons_zero, List.set_cons_succ]
  refine wpAnyH_ready (rs := [59]) (by as_aux_lemma => kernel_rfl) (by simp) ?_
  refine AllReadyH.cons (o := { dst := some 125, op := Op.call { callee := Callee.value (Operand.func 20), args := #[Operand.tmp 123, Operand.tmp 124], argTypes := #[28, 28] }, type := 28, pos := "law.go:109", after := #[{ on := 57, ground := Ground.data }, { on := 58, ground := Ground.data }, { on := 56, ground := Ground.chain }, { on := 56, ground := Ground.guard }], guard := some (56, true) }) rfl (fun K hK => ?_) AllReadyH.nil
  go_simp
  go_at_call 20; refine (HZ.out _ _ _ (V53.rat 14 _ _ rfl) (V53.rat 14 _ _ rfl) (HTB.out _ V53.bel)).mono ?_; rintro e wa59 ⟨v59, rfl, r59, hb⟩; have V59 := (V53.below hb).rcons r59; clear V53 r59 hb
  refine hK.out _ _ ?_ (fun hHeld => ?_)
  · exact HS.out _ _ _ ‹_›
  clear hK K
  try simp only [Act.put, List.setIfInBounds_toArray, List.set_cons_zero, List.set_cons_succ]
  refine wpAnyH_ready (rs := [61]) (by as_aux_lemma => kernel_rfl) (by simp) ?_
  refine AllReadyH.cons (o := { dst := some 127, op := Op.call { callee := Callee.value (Operand.func 15), args := #[Operand.tmp 125, Operand.tmp 126], argTypes := #[28, 28] }, type := 4, pos := "law.go:109", after := #[{ on := 59, ground := Ground.data }, { on := 60, ground := Ground.data }, { on := 59, ground := Ground.chain }, { on := 56, ground := Ground.guard }], guard := some (56, true) }) rfl (fun K hK => ?_) AllReadyH.nil
  go_simp
  go_at_call 15; refine (HS0.out _ _ _ (V59.rat 0 _ _ rfl) (isR_zero _)).mono ?_; rintro e wa61 ⟨rfl, hb⟩; have V61 := V59.below hb; clear V59 hb
  refine hK.out _ _ ?_ (fun hHeld => ?_)
  · exact HS.out _ _ _ ‹_›
  clear hK K
  try simp only [Act.put, List.setIfInBounds_toArray, List.set_cons_zero, List.set_cons_succ]
  refine wpAnyH_take (i := 62) (oi := { dst := some 128, op := Op.pick (Operand.tmp 122) (Operand.tmp 127) (Operand.const (Value.bool false)), type := 4, pos := "law.go:109", after := #[{ on := 56, ground := Ground.data }, { on := 61, ground := Ground.data }], guard := none }) (v := ?_) rfl (by as_aux_lemma => kernel_rfl) (by as_aux_lemma => kernel_rfl) (by as_aux_lemma => kernel_rfl) (fun _ _ _ h => h) (Or.inl ⟨by rfl, ?_⟩) (by assumption) ?_
  rotate_left
  · intro w hSw; (try dsimp only at hSw); go_simp; (try with_reducible rfl)
  try simp only [Act.put, List.setIfInBounds_toArray, List.set_cons_zero, List.set_cons_succ]
  refine wpAnyH_take (i := 63) (oi := { dst := some 129, op := Op.move (Operand.tmp 128), type := 4, pos := "law.go:109", after := #[{ on := 62, ground := Ground.data }, { on := 61, ground := Ground.chain }], guard := none }) (v := ?_) rfl (by as_aux_lemma => kernel_rfl) (by as_aux_lemma => kernel_rfl) (by as_aux_lemma => kernel_rfl) (fun _ _ _ h => h) (Or.inl ⟨by rfl, ?_⟩) (by assumption) ?_
  rotate_left
  · intro w hSw; (try dsimp only at hSw); go_simp; (try with_reducible rfl)
  try simp only [Act.put, List.setIfInBounds_toArray, List.set_cons_zero, List.set_cons_succ]
  refine wpAnyH_take (i := 64) (oi := { dst := some 130, op := Op.load 28 (Operand.tmp 7), type := 28, pos := "law.go:109", after := #[{ on := 63, ground := Ground.guard }], guard := some (63, true) }) (v := ?_) rfl (by as_aux_lemma => kernel_rfl) (by as_aux_lemma => kernel_rfl) (by as_aux_lemma => kernel_rfl) (fun _ _ _ h => h) (Or.inl ⟨by rfl, ?_⟩) (by assumption) ?_
  rotate_left
  · intro w hSw; (try dsimp only at hSw); go_simp; (try with_reducible rfl)
  try simp only [Act.put, List.setIfInBounds_toArray, List.set_cons_zero, List.set_cons_succ]
  refine wpAnyH_take (i := 65) (oi := { dst := some 131, op := Op.load 28 (Operand.tmp 9), type := 28, pos := "law.go:109", after := #[{ on := 63, ground := Ground.guard }], guard := some (63, true) }) (v := ?_) rfl (by as_aux_lemma => kernel_rfl) (by as_aux_lemma => kernel_rfl) (by as_aux_lemma => kernel_rfl) (fun _ _ _ h => h) (Or.inl ⟨by rfl, ?_⟩) (by assumption) ?_
  rotate_left
  · intro w hSw; (try dsimp only at hSw); go_simp; (try with_reducible rfl)
  try simp only [Act.put, List.setIfInBounds_toArray, List.set_cons_zero, List.set_cons_succ]
  refine wpAnyH_take (i := 68) (oi := { dst := some 134, op := Op.load 28 (Operand.tmp 7), type := 28, pos := "law.go:109", after := #[{ on := 63, ground := Ground.guard }], guard := some (63, true) }) (v := ?_) rfl (by as_aux_lemma => kernel_rfl) (by as_aux_lemma => kernel_rfl) (by as_aux_lemma => kernel_rfl) (fun _ _ _ h => h) (Or.inl ⟨by rfl, ?_⟩) (by assumption) ?_
  rotate_left
  · intro w hSw; (try dsimp only at hSw); go_simp; (try with_reducible rfl)
  try simp only [Act.put, List.setIfInBounds_toArray, List.set_cons_zero, List.set_cons_succ]
  refine wpAnyH_take (i := 69) (oi := { dst := some 135, op := Op.load 28 (Operand.tmp 9), type := 28, pos := "law.go:109", after := #[{ on := 63, ground := Ground.guard }], guard := some (63, true) }) (v := ?_) rfl (by as_aux_lemma => kernel_rfl) (by as_aux_lemma => kernel_rfl) (by as_aux_lemma => kernel_rfl) (fun _ _ _ h => h) (Or.inl ⟨by rfl, ?_⟩) (by assumption) ?_
  rotate_left
  · intro w hSw; (try dsimp only at hSw); go_simp; (try with_reducible rfl)
  try simp only [Act.put, List.setIfInBounds_toArray, List.set_cons_zero, List.set_cons_succ]
  refine wpAnyH_take (i := 71) (oi := { dst := some 137, op := Op.load 28 (Operand.tmp 15), type := 28, pos := "law.go:109", after := #[{ on := 63, ground := Ground.guard }], guard := some (63, true) }) (v := ?_) rfl (by as_aux_lemma => kernel_rfl) (by as_aux_lemma => kernel_rfl) (by as_aux_lemma => kernel_rfl) (fun _ _ _ h => h) (Or.inl ⟨by rfl, ?_⟩) (by assumption) ?_
  rotate_left
  · intro w hSw; (try dsimp only at hSw); go_simp; (try with_reducible rfl)
  try simp only [Act.put, List.setIfInBounds_toArray, List.set_cons_zero, List.set_cons_succ]
  refine wpAnyH_ready (rs := [66]) (by as_aux_lemma => kernel_rfl) (by simp) ?_
  refine AllReadyH.cons (o := { dst := some 132, op := Op.call { callee := Callee.value (Operand.func 23), args := #[Operand.tmp 130, Operand.tmp 131], argTypes := #[28, 28] }, type := 3, pos := "law.go:109", after := #[{ on := 64, ground := Ground.data }, { on := 65, ground := Ground.data }, { on := 63, ground := Ground.chain }, { on := 63, ground := Ground.guard }], guard := some (63, true) }) rfl (fun K hK => ?_) AllReadyH.nil
  go_simp
  go_at_call 23; refine (HC4.out _ _ _ (V61.rat 15 _ _ rfl) (V61.rat 14 _ _ rfl)).mono ?_; rintro e wa66 ⟨rfl, hb⟩; have V66 := V61.below hb; clear V61 hb
  refine hK.out _ _ ?_ (fun hHeld => ?_)
  · exact HS.out _ _ _ ‹_›
  clear hK K
  try simp only [Act.put, List.setIfInBounds_toArray, List.set_cons_zero, List.set_cons_succ]
  refine wpAnyH_take (i := 67) (oi := { dst := some 133, op := Op.binOp BinOp.lss 3 (Operand.tmp 132) (Operand.const (Value.int IntKind.i64 0)) 3, type := 4, pos := "law.go:109", after := #[{ on := 66, ground := Ground.data }, { on := 63, ground := Ground.guard }], guard := some (63, true) }) (v := ?_) rfl (by as_aux_lemma => kernel_rfl) (by as_aux_lemma => kernel_rfl) (by as_aux_lemma => kernel_rfl) (fun _ _ _ h => h) (Or.inl ⟨by rfl, ?_⟩) (by assumption) ?_
  rotate_left
  · intro w hSw; (try dsimp only at hSw); go_simp; (try with_reducible rfl)
  try simp only [Act.put, List.setIfInBounds_toArray, List.set_cons_zero, List.set_cons_succ]
  refine wpAnyH_ready (rs := [70]) (by as_aux_lemma => kernel_rfl) (by simp) ?_
  refine AllReadyH.cons (o := { dst := some 136, op := Op.call { callee := Callee.value (Operand.func 20), args := #[Operand.tmp 134, Operand.tmp 135], argTypes := #[28, 28] }, type := 28, pos := "law.go:109", after := #[{ on := 68, ground := Ground.data }, { on := 69, ground := Ground.data }, { on := 66, ground := Ground.chain }, { on := 63, ground := Ground.guard }], guard := some (63, true) }) rfl (fun K hK => ?_) AllReadyH.nil
  go_simp
  go_at_call 20; refine (HD.out _ _ _ (V66.rat 15 _ _ rfl) (V66.rat 14 _ _ rfl) (HTB.out _ V66.bel)).mono ?_; rintro e wa70 ⟨v70, rfl, r70, hb⟩; have V70 := (V66.below hb).rcons r70; clear V66 r70 hb
  refine hK.out _ _ ?_ (fun hHeld => ?_)
  · exact HS.out _ _ _ ‹_›
  clear hK K
  try simp only [Act.put, List.setIfInBounds_toArray, List.set_cons_zero, List.set_cons_succ]
  refine wpAnyH_ready (rs := [72]) (by as_aux_lemma => kernel_rfl) (by simp) ?_
  refine AllReadyH.cons (o := { dst := some 138, op := Op.call { callee := Callee.value (Operand.func 23), args := #[Operand.tmp 136, Operand.tmp 137], argTypes := #[28, 28] }, type := 3, pos := "law.go:109", after := #[{ on := 70, ground := Ground.data }, { on := 71, ground := Ground.data }, { on := 70, ground := Ground.chain }, { on := 63, ground := Ground.guard }], guard := some (63, true) }) rfl (fun K hK => ?_) AllReadyH.nil
  go_simp
  go_at_call 23; refine (HC5.out _ _ _ (V70.rat 0 _ _ rfl) (isR_zero _)).mono ?_; rintro e wa72 ⟨rfl, hb⟩; have V72 := V70.below hb; clear V70 hb
  refine hK.out _ _ ?_ (fun hHeld => ?_)
  · exact HS.out _ _ _ ‹_›
  clear hK K
  try simp only [Act.put, List.setIfInBounds_toArray, List.set_cons_zero, List.set_cons_succ]
  refine wpAnyH_take (i := 73) (oi := { dst := some 139, op := Op.binOp BinOp.lss 3 (Operand.tmp 138) (Operand.const (Value.int IntKind.i64 0)) 3, type := 4, pos := "law.go:109", after := #[{ on := 72, ground := Ground.data }, { on := 63, ground := Ground.guard }], guard := some (63, true) }) (v := ?_) rfl (by as_aux_lemma => kernel_rfl) (by as_aux_lemma => kernel_rfl) (by as_aux_lemma => kernel_rfl) (fun _ _ _ h => h) (Or.inl ⟨by rfl, ?_⟩) (by assumption) ?_
  rotate_left
  · intro w hSw; (try dsimp only at hSw); go_simp; (try with_reducible rfl)
  try simp only [Act.put, List.setIfInBounds_toArray, List.set_cons_zero, List.set_cons_succ]
  refine wpAnyH_take (i := 74) (oi := { dst := some 140, op := Op.binOp BinOp.eql 4 (Operand.tmp 133) (Operand.tmp 139) 4, type := 4, pos := "law.go:109", after := #[{ on := 67, ground := Ground.data }, { on := 73, ground := Ground.data }, { on := 63, ground := Ground.guard }], guard := some (63, true) }) (v := .bool true) rfl (by as_aux_lemma => kernel_rfl) (by as_aux_lemma => kernel_rfl) (by as_aux_lemma => kernel_rfl) (fun _ _ _ h => h) (Or.inl ⟨by rfl, ?_⟩) (by assumption) ?_
  · intro w hSw; (try dsimp only at hSw); go_simp; skip
  try simp only [Act.put, List.setIfInBounds_toArray, List.set_cons_zero, List.set_cons_succ]
  refine wpAnyH_take (i := 75) (oi := { dst := some 141, op := Op.pick (Operand.tmp 129) (Operand.tmp 140) (Operand.const (Value.bool false)), type := 4, pos := "law.go:109", after := #[{ on := 63, ground := Ground.data }, { on := 74, ground := Ground.data }], guard := none }) (v := ?_) rfl (by as_aux_lemma => kernel_rfl) (by as_aux_lemma => kernel_rfl) (by as_aux_lemma => kernel_rfl) (fun _ _ _ h => h) (Or.inl ⟨by rfl, ?_⟩) (by assumption) ?_
  rotate_left
  · intro w hSw; (try dsimp only at hSw); go_simp; (try with_reducible rfl)
  try simp only [Act.put, List.setIfInBounds_toArray, List.set_cons_zero, List.set_cons_succ]
  refine wpAnyH_take (i := 76) (oi := { dst := some 142, op := Op.move (Operand.tmp 141), type := 4, pos := "law.go:109", after := #[{ on := 75, ground := Ground.data }, { on := 72, ground := Ground.chain }], guard := none }) (v := ?_) rfl (by as_aux_lemma => kernel_rfl) (by as_aux_lemma => kernel_rfl) (by as_aux_lemma => kernel_rfl) (fun _ _ _ h => h) (Or.inl ⟨by rfl, ?_⟩) (by assumption) ?_
  rotate_left
  · intro w hSw; (try dsimp only at hSw); go_simp; (try with_reducible rfl)
  try simp only [Act.put, List.setIfInBounds_toArray, List.set_cons_zero, List.set_cons_succ]
  refine wpAnyH_take (i := 77) (oi := { dst := some 143, op := Op.load 28 (Operand.tmp 7), type := 28, pos := "law.go:109", after := #[{ on := 76, ground := Ground.guard }], guard := some (76, true) }) (v := ?_) rfl (by as_aux_lemma => kernel_rfl) (by as_aux_lemma => kernel_rfl) (by as_aux_lemma => kernel_rfl) (fun _ _ _ h => h) (Or.inl ⟨by rfl, ?_⟩) (by assumption) ?_
  rotate_left
  · intro w hSw; (try dsimp only at hSw); go_simp; (try with_reducible rfl)
  try simp only [Act.put, List.setIfInBounds_toArray, List.set_cons_zero, List.set_cons_succ]
  refine wpAnyH_take (i := 78) (oi := { dst := some 144, op := Op.load 28 (Operand.tmp 9), type := 28, pos := "law.go:109", after := #[{ on := 76, ground := Ground.guard }], guard := some (76, true) }) (v := ?_) rfl (by as_aux_lemma => kernel_rfl) (by as_aux_lemma => kernel_rfl) (by as_aux_lemma => kernel_rfl) (fun _ _ _ h => h) (Or.inl ⟨by rfl, ?_⟩) (by assumption) ?_
  rotate_left
  · intro w hSw; (try dsimp only at hSw); go_simp; (try with_reducible rfl)
  try simp only [Act.put, List.setIfInBounds_toArray, List.set_cons_zero, List.set_cons_succ]
  refine wpAnyH_take (i := 80) (oi := { dst := some 146, op := Op.load 28 (Operand.tmp 9), type := 28, pos := "law.go:109", after := #[{ on := 76, ground := Ground.guard }], guard := some (76, true) }) (v := ?_) rfl (by as_aux_lemma => kernel_rfl) (by as_aux_lemma => kernel_rfl) (by as_aux_lemma => kernel_rfl) (fun _ _ _ h => h) (Or.inl ⟨by rfl, ?_⟩) (by assumption) ?_
  rotate_left
  · intro w hSw; (try dsimp only at hSw); go_simp; (try with_reducible rfl)
  try simp only [Act.put, List.setIfInBounds_toArray, List.set_cons_zero, List.set_cons_succ]
  refine wpAnyH_take (i := 81) (oi := { dst := some 147, op := Op.load 28 (Operand.tmp 7), type := 28, pos := "law.go:109", after := #[{ on := 76, ground := Ground.guard }], guard := some (76, true) }) (v := ?_) rfl (by as_aux_lemma => kernel_rfl) (by as_aux_lemma => kernel_rfl) (by as_aux_lemma => kernel_rfl) (fun _ _ _ h => h) (Or.inl ⟨by rfl, ?_⟩) (by assumption) ?_
  rotate_left
  · intro w hSw; (try dsimp only at hSw); go_simp; (try with_reducible rfl)
  try simp only [Act.put, List.setIfInBounds_toArray, List.set_cons_zero, List.set_cons_succ]
  refine wpAnyH_ready (rs := [79]) (by as_aux_lemma => kernel_rfl) (by simp) ?_
  refine AllReadyH.cons (o := { dst := some 145, op := Op.call { callee := Callee.value (Operand.func 23), args := #[Operand.tmp 143, Operand.tmp 144], argTypes := #[28, 28] }, type := 3, pos := "law.go:109", after := #[{ on := 77, ground := Ground.data }, { on := 78, ground := Ground.data }, { on := 76, ground := Ground.chain }, { on := 76, ground := Ground.guard }], guard := some (76, true) }) rfl (fun K hK => ?_) AllReadyH.nil
  go_simp
  go_at_call 23; refine (HC4.out _ _ _ (V72.rat 16 _ _ rfl) (V72.rat 15 _ _ rfl)).mono ?_; rintro e wa79 ⟨rfl, hb⟩; have V79 := V72.below hb; clear V72 hb
  refine hK.out _ _ ?_ (fun hHeld => ?_)
  · exact HS.out _ _ _ ‹_›
  clear hK K
  try simp only [Act.put, List.setIfInBounds_toArray, List.set_cons_zero, List.set_cons_succ]
  refine wpAnyH_ready (rs := [82]) (by as_aux_lemma => kernel_rfl) (by simp) ?_
  refine AllReadyH.cons (o := { dst := some 148, op := Op.call { callee := Callee.value (Operand.func 23), args := #[Operand.tmp 146, Operand.tmp 147], argTypes := #[28, 28] }, type := 3, pos := "law.go:109", after := #[{ on := 80, ground := Ground.data }, { on := 81, ground := Ground.data }, { on := 79, ground := Ground.chain }, { on := 76, ground := Ground.guard }], guard := some (76, true) }) rfl (fun K hK => ?_) AllReadyH.nil
  go_simp
  go_at_call 23; refine (HC6.out _ _ _ (V79.rat 15 _ _ rfl) (V79.rat 16 _ _ rfl)).mono ?_; rintro e wa82 ⟨rfl, hb⟩; have V82 := V79.below hb; clear V79 hb
  refine hK.out _ _ ?_ (fun hHeld => ?_)
  · exact HS.out _ _ _ ‹_›
  clear hK K
  try simp only [Act.put, List.setIfInBounds_toArray, List.set_cons_zero, List.set_cons_succ]
  refine wpAnyH_take (i := 83) (oi := { dst := some 149, op := Op.unOp UnOp.neg 3 (Operand.tmp 148), type := 3, pos := "law.go:109", after := #[{ on := 82, ground := Ground.data }, { on := 76, ground := Ground.guard }], guard := some (76, true) }) (v := .int .i64 c4) rfl (by as_aux_lemma => kernel_rfl) (by as_aux_lemma => kernel_rfl) (by as_aux_lemma => kernel_rfl) (fun _ _ _ h => h) (Or.inl ⟨by rfl, ?_⟩) (by assumption) ?_
  · intro w hSw; (try dsimp only at hSw); go_simp; exact L4.out
  try simp only [Act.put, List.setIfInBounds_toArray, List.set_cons_zero, List.set_cons_succ]
  refine wpAnyH_take (i := 84) (oi := { dst := some 150, op := Op.binOp BinOp.eql 3 (Operand.tmp 145) (Operand.tmp 149) 3, type := 4, pos := "law.go:109", after := #[{ on := 79, ground := Ground.data }, { on := 83, ground := Ground.data }, { on := 76, ground := Ground.guard }], guard := some (76, true) }) (v := .bool true) rfl (by as_aux_lemma => kernel_rfl) (by as_aux_lemma => kernel_rfl) (by as_aux_lemma => kernel_rfl) (fun _ _ _ h => h) (Or.inl ⟨by rfl, ?_⟩) (by assumption) ?_
  · intro w hSw; (try dsimp only at hSw); go_simp; skip
  try simp only [Act.put, List.setIfInBounds_toArray, List.set_cons_zero, List.set_cons_succ]
  refine wpAnyH_take (i := 85) (oi := { dst := some 151, op := Op.pick (Operand.tmp 142) (Operand.tmp 150) (Operand.const (Value.bool false)), type := 4, pos := "law.go:109", after := #[{ on := 76, ground := Ground.data }, { on := 84, ground := Ground.data }], guard := none }) (v := ?_) rfl (by as_aux_lemma => kernel_rfl) (by as_aux_lemma => kernel_rfl) (by as_aux_lemma => kernel_rfl) (fun _ _ _ h => h) (Or.inl ⟨by rfl, ?_⟩) (by assumption) ?_
  rotate_left
  · intro w hSw; (try dsimp only at hSw); go_simp; (try with_reducible rfl)
  try simp only [Act.put, List.setIfInBounds_toArray, List.set_cons_zero, List.set_cons_succ]
  refine wpAnyH_take (i := 86) (oi := { dst := some 6, op := Op.assign (Operand.tmp 151), type := 4, pos := "law.go:109", after := #[{ on := 85, ground := Ground.data }, { on := 82, ground := Ground.chain }, { on := 0, ground := Ground.phase }, { on := 1, ground := Ground.phase }, { on := 2, ground := Ground.phase }, { on := 3, ground := Ground.phase }, { on := 4, ground := Ground.phase }, { on := 5, ground := Ground.phase }, { on := 6, ground := Ground.phase }, { on := 7, ground := Ground.phase }, { on := 8, ground := Ground.phase }, { on := 9, ground := Ground.phase }, { on := 10, ground := Ground.phase }, { on := 11, ground := Ground.phase }, { on := 12, ground := Ground.phase }, { on := 13, ground := Ground.phase }, { on := 14, ground := Ground.phase }, { on := 15, ground := Ground.phase }, { on := 16, ground := Ground.phase }, { on := 17, ground := Ground.phase }, { on := 18, ground := Ground.phase }, { on := 19, ground := Ground.phase }, { on := 20, ground := Ground.phase }, { on := 21, ground := Ground.phase }, { on := 22, ground := Ground.phase }, { on := 23, ground := Ground.phase }, { on := 24, ground := Ground.phase }, { on := 25, ground := Ground.phase }, { on := 26, ground := Ground.phase }, { on := 27, ground := Ground.phase }, { on := 28, ground := Ground.phase }, { on := 29, ground := Ground.phase }, { on := 30, ground := Ground.phase }, { on := 31, ground := Ground.phase }, { on := 32, ground := Ground.phase }, { on := 33, ground := Ground.phase }, { on := 34, ground := Ground.phase }, { on := 35, ground := Ground.phase }, { on := 36, ground := Ground.phase }, { on := 37, ground := Ground.phase }, { on := 38, ground := Ground.phase }, { on := 39, ground := Ground.phase }, { on := 40, ground := Ground.phase }, { on := 41, ground := Ground.phase }, { on := 42, ground := Ground.phase }, { on := 43, ground := Ground.phase }, { on := 44, ground := Ground.phase }, { on := 45, ground := Ground.phase }, { on := 46, ground := Ground.phase }, { on := 47, ground := Ground.phase }, { on := 48, ground := Ground.phase }, { on := 49, ground := Ground.phase }, { on := 50, ground := Ground.phase }, { on := 51, ground := Ground.phase }, { on := 52, ground := Ground.phase }, { on := 53, ground := Ground.phase }, { on := 54, ground := Ground.phase }, { on := 55, ground := Ground.phase }, { on := 56, ground := Ground.phase }, { on := 57, ground := Ground.phase }, { on := 58, ground := Ground.phase }, { on := 59, ground := Ground.phase }, { on := 60, ground := Ground.phase }, { on := 61, ground := Ground.phase }, { on := 62, ground := Ground.phase }, { on := 63, ground := Ground.phase }, { on := 64, ground := Ground.phase }, { on := 65, ground := Ground.phase }, { on := 66, ground := Ground.phase }, { on := 67, ground := Ground.phase }, { on := 68, ground := Ground.phase }, { on := 69, ground := Ground.phase }, { on := 70, ground := Ground.phase }, { on := 71, ground := Ground.phase }, { on := 72, ground := Ground.phase }, { on := 73, ground := Ground.phase }, { on := 74, ground := Ground.phase }, { on := 75, ground := Ground.phase }, { on := 76, ground := Ground.phase }, { on := 77, ground := Ground.phase }, { on := 78, ground := Ground.phase }, { on := 79, ground := Ground.phase }, { on := 80, ground := Ground.phase }, { on := 81, ground := Ground.phase }, { on := 82, ground := Ground.phase }, { on := 83, ground := Ground.phase }, { on := 84, ground := Ground.phase }, { on := 85, ground := Ground.phase }], guard := none }) (v := ?_) rfl (by as_aux_lemma => kernel_rfl) (by as_aux_lemma => kernel_rfl) (by as_aux_lemma => kernel_rfl) (fun _ _ _ h => h) (Or.inl ⟨by rfl, ?_⟩) (by assumption) ?_
  rotate_left
  · intro w hSw; (try dsimp only at hSw); go_simp; (try with_reducible rfl)
  try simp only [Act.put, List.setIfInBounds_toArray, List.set_cons_zero, List.set_cons_succ]
  refine wpAnyH_done (by as_aux_lemma => kernel_rfl) ?_ _
  have HV := Lib.hid V82.bel
  clear V82
  go_wp2_with fail
  go_ret
  exact ⟨rfl, HV.out⟩
end Go.Proofs.YtllmacokhjmdgaaGreatDoor
