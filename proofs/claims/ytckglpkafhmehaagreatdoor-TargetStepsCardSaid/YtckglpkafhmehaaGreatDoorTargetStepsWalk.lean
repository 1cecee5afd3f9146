/-
  The walk of TargetSteps: for every input it returns true, and leaves what lay in memory as it was.
-/
import Derived.Test.YtckglpkafhmehaaGreatDoorTgS
import Derived.SizedLaws
namespace Go.Proofs.YtckglpkafhmehaaGreatDoor
open Go.RowKit
set_option linter.unusedVariables false
theorem bl_eqs (a : ByteArray) : (a.toList == a.toList) = true := by simp
set_option maxRecDepth 100000 in
set_option maxHeartbeats 4000000 in
theorem targetSteps.early (mn mx fa co num : ByteArray) (ca : Int) (w : World) (htab : Tab w) (htb : TabB w) (h1 : mn.size ≤ reachBytes) (h2 : mx.size ≤ reachBytes) (h3 : fa.size ≤ reachBytes) (h4 : co.size ≤ reachBytes) (h5 : num.size ≤ reachBytes) (h : 400 < mn.size + mx.size + fa.size + co.size + num.size) :
    Calls Tryz.prog 4 #[.agg #[.string mn, .string mx, .string fa, .string co, .int .i64 ca], .string num] w fun e w' => e = .returned (.bool true) ∧ Below w.heap.size w w' := by
  have V0 := (Mq.refl w).alloc 25 #[.string mn, .string mx, .string fa, .string co, .int .i64 ca]
  have HAl : Hid (∀ W, Below w.heap.size w W → Calls Tryz.prog 5 #[] W fun e w' => e = .returned (.bool true) ∧ Below W.heap.size W w') := Lib.hid (fun W hB => alive_t W (htab.below hB (Nat.le_refl _)) (htb.below hB (Nat.le_refl _)))
  clear htab htb
  unfold reachBytes at h1 h2 h3 h4 h5
  obtain ⟨A, hA⟩ : ∃ A : Int, (mn.size : Int) = A := ⟨_, rfl⟩
  obtain ⟨B, hB⟩ : ∃ A : Int, (mx.size : Int) = A := ⟨_, rfl⟩
  obtain ⟨C, hC⟩ : ∃ A : Int, (fa.size : Int) = A := ⟨_, rfl⟩
  obtain ⟨D, hD⟩ : ∃ A : Int, (co.size : Int) = A := ⟨_, rfl⟩
  obtain ⟨E, hE⟩ : ∃ A : Int, (num.size : Int) = A := ⟨_, rfl⟩
  have g1 : 400 < A + B + C + D + E := by omega
  have b1 : 0 ≤ A ∧ A ≤ 140737488355328 := by omega
  have b2 : 0 ≤ B ∧ B ≤ 140737488355328 := by omega
  have b3 : 0 ≤ C ∧ C ≤ 140737488355328 := by omega
  have b4 : 0 ≤ D ∧ D ≤ 140737488355328 := by omega
  have b5 : 0 ≤ E ∧ E ≤ 140737488355328 := by omega
  obtain ⟨b1, b1'⟩ := b1
  obtain ⟨b2, b2'⟩ := b2
  obtain ⟨b3, b3'⟩ := b3
  obtain ⟨b4, b4'⟩ := b4
  obtain ⟨b5, b5'⟩ := b5
  have c0 := V0.tg0 0 rfl; have c1 := V0.tg1 0 rfl; have c2 := V0.tg2 0 rfl; have c3 := V0.tg3 0 rfl; have c4 := V0.tg4 0 rfl
  clear h h1 h2 h3 h4 h5
  go_enter Tryz.func4, Tryz.ntmps4
  go_wp2_with fail
  refine (HAl.out _ V0.bel).mono ?_
  rintro e w1 ⟨rfl, hb⟩
  have HB := Lib.hid (V0.below hb).bel
  clear hb V0 c0 c1 c2 c3 c4
  go_wp2_with fail
  go_ret
  exact ⟨rfl, HB.out⟩
set_option maxRecDepth 100000 in
set_option maxHeartbeats 8000000 in
theorem targetSteps.good (mn mx fa co num : ByteArray) (ca : Int) (w : World) (htab : Tab w) (htb : TabB w) (h : mn.size + mx.size + fa.size + co.size + num.size ≤ 400) (hca : -9223372036854775808 ≤ ca ∧ ca ≤ 9223372036854775807) :
    Calls Tryz.prog 4 #[.agg #[.string mn, .string mx, .string fa, .string co, .int .i64 ca], .string num] w fun e w' => e = .returned (.bool true) ∧ Below w.heap.size w w' := by
  have V0 := (Mq.refl w).alloc 25 #[.string mn, .string mx, .string fa, .string co, .int .i64 ca]
  have HAl : Hid (∀ W, Below w.heap.size w W → Calls Tryz.prog 5 #[] W fun e w' => e = .returned (.bool true) ∧ Below W.heap.size W w') := Lib.hid (fun W hB => alive_t W (htab.below hB (Nat.le_refl _)) (htb.below hB (Nat.le_refl _)))
  have HVl : Hid (∀ W, Below w.heap.size w W → Calls Tryz.prog 7 #[.agg #[.string mn, .string mx, .string fa, .string co, .int .i64 ca]] W fun e w' => e = .returned (.bool (vld mn mx fa co ca)) ∧ Below W.heap.size W w') := Lib.hid (fun W hB =>
    valid_any mn mx fa co ca W (htb.below hB (Nat.le_refl _)) (by omega) (by omega) (by omega) (by omega) ((qv_sz _ 22 (by omega) (by omega)).mono (by omega)) ((qv_sz _ 22 (by omega) (by omega)).mono (by omega)))
  have g1 : ¬ (400 : Int) < (mn.size : Int) + (mx.size : Int) + (fa.size : Int) + (co.size : Int) + (num.size : Int) := by omega
  have g2 : mn.size ≤ 400 ∧ mx.size ≤ 400 ∧ fa.size ≤ 400 ∧ co.size ≤ 400 ∧ num.size ≤ 400 := by omega
  obtain ⟨k, hk⟩ : ∃ k, (mn.size + mx.size + num.size) / 19 + 1 = k := ⟨_, rfl⟩
  obtain ⟨k3, hk3⟩ : ∃ k, fa.size / 19 + 1 = k := ⟨_, rfl⟩
  obtain ⟨k4, hk4⟩ : ∃ k, co.size / 19 + 1 = k := ⟨_, rfl⟩
  have hkk : k + k3 + k4 ≤ 24 ∧ 1 ≤ k ∧ 1 ≤ k3 ∧ 1 ≤ k4 ∧ mn.size ≤ 19 * k ∧ mx.size ≤ 19 * k ∧ num.size ≤ 19 * k ∧ fa.size ≤ 19 * k3 ∧ co.size ≤ 19 * k4 := by omega
  obtain ⟨q0, q1, q3, q4, u1, u2, u5, u3, u4⟩ := hkk
  have s1 := qv_sz mn k u1 q1
  have s2 := qv_sz mx k u2 q1
  have s4 := qv_sz co k4 u4 q4
  have s5 := pqd_sz num k u5 q1
  have s3 : Sz k3 (qv fa 1) := by
    unfold qv
    split
    · exact sz_one k3 q3
    · exact pqd_sz fa k3 u3 q3
  obtain ⟨g3, g4, g5, g6, g7⟩ := g2
  have H1 : Hid (∀ W, Below w.heap.size w W → Calls Tryz.prog 6 #[.agg #[.string mn, .string mx, .string ⟨#[]⟩, .string ⟨#[]⟩, .int .i64 0], .string num] W fun e w' => e = .returned (.string (apT mn mx Nl Nl 0 num)) ∧ Below W.heap.size W w') := Lib.hid (fun W hB => app_any mn mx Nl Nl num 0 W (htab.below hB (Nat.le_refl _)) (htb.below hB (Nat.le_refl _)) (by omega) (by omega) (by decide) (by decide) (by omega) k 1 1 s5 s1 s2 (by rw [qv_nl]; exact sz_one 1 (by omega)) (by rw [qv_nl]; exact sz_zero 1 (by omega)) (by omega) (by omega))
  have HW : Hid (∀ W, Below w.heap.size w W → Calls Tryz.prog 6 #[.agg #[.string mn, .string mx, .string fa, .string co, .int .i64 ca], .string num] W fun e w' => e = .returned (.string (apT mn mx fa co ca num)) ∧ Below W.heap.size W w') := Lib.hid (fun W hB => app_any mn mx fa co num ca W (htab.below hB (Nat.le_refl _)) (htb.below hB (Nat.le_refl _)) (by omega) (by omega) (by omega) (by omega) (by omega) k k3 k4 s5 s1 s2 s3 s4 (by omega) (by omega))
  have c0 := V0.tg0 0 rfl; have c1 := V0.tg1 0 rfl; have c2 := V0.tg2 0 rfl; have c3 := V0.tg3 0 rfl; have c4 := V0.tg4 0 rfl
  obtain ⟨VV, hVV⟩ : ∃ v, vld mn mx fa co ca = v := ⟨_, rfl⟩
  rw [hVV] at HVl
  cases VV with
  | false =>
    clear htab htb h hk hk3 hk4 q0 q1 q3 q4 u1 u2 u3 u4 u5 s1 s2 s3 s4 s5 H1 HW g3 g4 g5 g6 g7 hVV
    go_enter Tryz.func4, Tryz.ntmps4
    go_wp2_with fail
    refine (HAl.out _ V0.bel).mono ?_
    rintro e w1 ⟨rfl, hb⟩
    have V1 := V0.below hb
    clear hb V0 c0 c1 c2 c3 c4
    have c0 := V1.tg0 0 rfl; have c1 := V1.tg1 0 rfl; have c2 := V1.tg2 0 rfl; have c3 := V1.tg3 0 rfl; have c4 := V1.tg4 0 rfl
    go_wp2_with fail
    refine (HVl.out _ V1.bel).mono ?_
    rintro e w2 ⟨rfl, hb⟩
    have HB := Lib.hid (V1.below hb).bel
    clear V1 hb c0 c1 c2 c3 c4
    go_wp2_with fail
    go_ret
    exact ⟨rfl, HB.out⟩
  | true =>
    have hfin : ∃ A B C D : ByteArray, (∀ W, Below w.heap.size w W → Calls Tryz.prog 6 #[.agg #[.string mn, .string mx, .string ⟨#[]⟩, .string ⟨#[]⟩, .int .i64 0], .string num] W fun e w' => e = .returned (.string A) ∧ Below W.heap.size W w') ∧ (∀ W, Below w.heap.size w W → Calls Tryz.prog 6 #[.agg #[.string ⟨#[]⟩, .string ⟨#[]⟩, .string fa, .string ⟨#[]⟩, .int .i64 0], .string A] W fun e w' => e = .returned (.string B) ∧ Below W.heap.size W w') ∧ (∀ W, Below w.heap.size w W → Calls Tryz.prog 6 #[.agg #[.string ⟨#[]⟩, .string ⟨#[]⟩, .string ⟨#[]⟩, .string co, .int .i64 0], .string B] W fun e w' => e = .returned (.string C) ∧ Below W.heap.size W w') ∧ (∀ W, Below w.heap.size w W → Calls Tryz.prog 6 #[.agg #[.string ⟨#[]⟩, .string ⟨#[]⟩, .string ⟨#[]⟩, .string ⟨#[]⟩, .int .i64 ca], .string C] W fun e w' => e = .returned (.string D) ∧ Below W.heap.size W w') ∧ (∀ W, Below w.heap.size w W → Calls Tryz.prog 6 #[.agg #[.string mn, .string mx, .string fa, .string co, .int .i64 ca], .string num] W fun e w' => e = .returned (.string D) ∧ Below W.heap.size W w') ∧ (D.toList.isEmpty = true ∨ (D.toList.isEmpty = false ∧ (∀ W, Below w.heap.size w W → Calls Tryz.prog 6 #[.agg #[.string ⟨#[]⟩, .string ⟨#[]⟩, .string ⟨#[]⟩, .string ⟨#[]⟩, .int .i64 ca], .string D] W fun e w' => e = .returned (.string D) ∧ Below W.heap.size W w'))) := by
      rcases e0 : pq num with _ | X
      · refine ⟨Nl, Nl, Nl, Nl, ?_, ?_, ?_, ?_, ?_, Or.inl nl_empty⟩
        · rw [apT_none _ _ _ _ _ _ e0] at H1; exact H1.out
        · have h2 : ∀ W, Below w.heap.size w W → _ := fun W hB => app_any Nl Nl fa Nl Nl 0 W (htab.below hB (Nat.le_refl _)) (htb.below hB (Nat.le_refl _)) (by decide) (by decide) (by omega) (by decide) (by decide) 1 k3 1 (pqd_sz _ 1 (by decide) (by omega)) (by rw [qv_nl]; exact sz_zero 1 (by omega)) (by rw [qv_nl]; exact sz_zero 1 (by omega)) s3 (by rw [qv_nl]; exact sz_zero 1 (by omega)) (by omega) (by omega)
          rw [apT_none _ _ _ _ _ _ pq_nl] at h2
          exact h2
        · have h2 : ∀ W, Below w.heap.size w W → _ := fun W hB => app_any Nl Nl Nl co Nl 0 W (htab.below hB (Nat.le_refl _)) (htb.below hB (Nat.le_refl _)) (by decide) (by decide) (by decide) (by omega) (by decide) 1 1 k4 (pqd_sz _ 1 (by decide) (by omega)) (by rw [qv_nl]; exact sz_zero 1 (by omega)) (by rw [qv_nl]; exact sz_zero 1 (by omega)) (by rw [qv_nl]; exact sz_one 1 (by omega)) s4 (by omega) (by omega)
          rw [apT_none _ _ _ _ _ _ pq_nl] at h2
          exact h2
        · have h2 : ∀ W, Below w.heap.size w W → _ := fun W hB => app_any Nl Nl Nl Nl Nl ca W (htab.below hB (Nat.le_refl _)) (htb.below hB (Nat.le_refl _)) (by decide) (by decide) (by decide) (by decide) (by decide) 1 1 1 (pqd_sz _ 1 (by decide) (by omega)) (by rw [qv_nl]; exact sz_zero 1 (by omega)) (by rw [qv_nl]; exact sz_zero 1 (by omega)) (by rw [qv_nl]; exact sz_one 1 (by omega)) (by rw [qv_nl]; exact sz_zero 1 (by omega)) (by omega) (by omega)
          rw [apT_none _ _ _ _ _ _ pq_nl] at h2
          exact h2
        · rw [apT_none _ _ _ _ _ _ e0] at HW; exact HW.out
      · obtain ⟨R, F, C, hF, hC, hR, a1, a2, a3, a4, a5, a6⟩ := steps mn mx fa co num ca X e0 hVV
        rw [e0] at s5
        have sR := hR k s5 s1 s2
        rw [hF] at s3
        rw [hC] at s4
        have sRF := sz_mul sR s3
        have sY := sz_add sRF s4
        have sZ := sz_cst sY (by omega) ca
        refine ⟨tx R, tx (R * F), tx (R * F + C), tx (cst ca (R * F + C)), ?_, ?_, ?_, ?_, ?_, Or.inr ⟨empty_of_pos (tx_pos _), ?_⟩⟩
        · rw [a1] at H1; exact H1.out
        · intro W hB
          have h2 := app_any2 Nl Nl fa Nl (tx R) 0 W (htab.below hB (Nat.le_refl _)) (htb.below hB (Nat.le_refl _)) (by decide) (by decide) (by omega) (by decide) (fun W h => parse_tx R W (sR.mono (by omega)) h) k k3 1 (by rw [pq_tx]; exact sR) (by rw [qv_nl]; exact sz_zero k (by omega)) (by rw [qv_nl]; exact sz_zero k (by omega)) (by rw [hF]; exact s3) (by rw [qv_nl]; exact sz_zero 1 (by omega)) (by omega) (by omega)
          rw [a2] at h2
          exact h2
        · intro W hB
          have h2 := app_any2 Nl Nl Nl co (tx (R * F)) 0 W (htab.below hB (Nat.le_refl _)) (htb.below hB (Nat.le_refl _)) (by decide) (by decide) (by decide) (by omega) (fun W h => parse_tx _ W (sRF.mono (by omega)) h) (k + k3) 1 k4 (by rw [pq_tx]; exact sRF) (by rw [qv_nl]; exact sz_zero _ (by omega)) (by rw [qv_nl]; exact sz_zero _ (by omega)) (by rw [qv_nl]; exact sz_one 1 (by omega)) (by rw [hC]; exact s4) (by omega) (by omega)
          rw [a3] at h2
          exact h2
        · intro W hB
          have h2 := app_any2 Nl Nl Nl Nl (tx (R * F + C)) ca W (htab.below hB (Nat.le_refl _)) (htb.below hB (Nat.le_refl _)) (by decide) (by decide) (by decide) (by decide) (fun W h => parse_tx _ W (sY.mono (by omega)) h) (k + k3 + k4 + 1) 1 1 (by rw [pq_tx]; exact sY) (by rw [qv_nl]; exact sz_zero _ (by omega)) (by rw [qv_nl]; exact sz_zero _ (by omega)) (by rw [qv_nl]; exact sz_one 1 (by omega)) (by rw [qv_nl]; exact sz_zero 1 (by omega)) (by omega) (by omega)
          rw [a4] at h2
          exact h2
        · rw [a5] at HW; exact HW.out
        · intro W hB
          have h2 := app_any2 Nl Nl Nl Nl (tx (cst ca (R * F + C))) ca W (htab.below hB (Nat.le_refl _)) (htb.below hB (Nat.le_refl _)) (by decide) (by decide) (by decide) (by decide) (fun W h => parse_tx _ W (sZ.mono (by omega)) h) (k + k3 + k4 + 1 + 1) 1 1 (by rw [pq_tx]; exact sZ) (by rw [qv_nl]; exact sz_zero _ (by omega)) (by rw [qv_nl]; exact sz_zero _ (by omega)) (by rw [qv_nl]; exact sz_one 1 (by omega)) (by rw [qv_nl]; exact sz_zero 1 (by omega)) (by omega) (by omega)
          rw [a6] at h2
          exact h2
    obtain ⟨A, B, C, D, k1, k2, k5, k6, k7, k8⟩ := hfin
    have K1 := Lib.hid k1; have K2 := Lib.hid k2; have K3 := Lib.hid k5; have K4 := Lib.hid k6; have KW := Lib.hid k7; have K5 := Lib.hid k8
    clear htab htb h hk hk3 hk4 q0 q1 q3 q4 u1 u2 u3 u4 u5 s1 s2 s3 s4 s5 H1 HW hVV k1 k2 k5 k6 k7 k8
    have hdd := bl_eqs D
    obtain ⟨hca1, hca2⟩ := hca
    go_enter Tryz.func4, Tryz.ntmps4
    go_wp2_with fail
    refine (HAl.out _ V0.bel).mono ?_
    rintro e w1 ⟨rfl, hb⟩
    have VHVl := V0.below hb
    clear hb V0 c0 c1 c2 c3 c4
    have c0 := VHVl.tg0 0 rfl; have c1 := VHVl.tg1 0 rfl; have c2 := VHVl.tg2 0 rfl; have c3 := VHVl.tg3 0 rfl; have c4 := VHVl.tg4 0 rfl
    go_wp2_with fail
    refine (HVl.out _ VHVl.bel).mono ?_
    rintro e wHVl ⟨rfl, hb⟩
    have VK1 := VHVl.below hb
    clear hb VHVl c0 c1 c2 c3 c4
    have c0 := VK1.tg0 0 rfl; have c1 := VK1.tg1 0 rfl; have c2 := VK1.tg2 0 rfl; have c3 := VK1.tg3 0 rfl; have c4 := VK1.tg4 0 rfl
    go_wp2_with fail
    refine (K1.out _ VK1.bel).mono ?_
    rintro e wK1 ⟨rfl, hb⟩
    have VK2 := VK1.below hb
    clear hb VK1 c0 c1 c2 c3 c4
    have c0 := VK2.tg0 0 rfl; have c1 := VK2.tg1 0 rfl; have c2 := VK2.tg2 0 rfl; have c3 := VK2.tg3 0 rfl; have c4 := VK2.tg4 0 rfl
    go_wp2_with fail
    refine (K2.out _ VK2.bel).mono ?_
    rintro e wK2 ⟨rfl, hb⟩
    have VK3 := VK2.below hb
    clear hb VK2 c0 c1 c2 c3 c4
    have c0 := VK3.tg0 0 rfl; have c1 := VK3.tg1 0 rfl; have c2 := VK3.tg2 0 rfl; have c3 := VK3.tg3 0 rfl; have c4 := VK3.tg4 0 rfl
    go_wp2_with fail
    refine (K3.out _ VK3.bel).mono ?_
    rintro e wK3 ⟨rfl, hb⟩
    have VK4 := VK3.below hb
    clear hb VK3 c0 c1 c2 c3 c4
    have c0 := VK4.tg0 0 rfl; have c1 := VK4.tg1 0 rfl; have c2 := VK4.tg2 0 rfl; have c3 := VK4.tg3 0 rfl; have c4 := VK4.tg4 0 rfl
    go_wp2_with fail
    refine (K4.out _ VK4.bel).mono ?_
    rintro e wK4 ⟨rfl, hb⟩
    have VKW := VK4.below hb
    clear hb VK4 c0 c1 c2 c3 c4
    have c0 := VKW.tg0 0 rfl; have c1 := VKW.tg1 0 rfl; have c2 := VKW.tg2 0 rfl; have c3 := VKW.tg3 0 rfl; have c4 := VKW.tg4 0 rfl
    go_wp2_with fail
    refine (KW.out _ VKW.bel).mono ?_
    rintro e wKW ⟨rfl, hb⟩
    have V8 := VKW.below hb
    clear hb VKW c0 c1 c2 c3 c4
    have c4 := V8.tg4 0 rfl
    by_cases hc0 : ca = 0
    · have hcb : (ca == 0) = true := by rw [hc0]; rfl
      have HB := Lib.hid V8.bel
      clear V8
      go_wp2_with fail
      go_ret
      exact ⟨rfl, HB.out⟩
    · have hcb : (ca == 0) = false := by simpa using hc0
      rcases K5.out with hde | ⟨hde, k8⟩
      · have HB := Lib.hid V8.bel
        clear V8
        go_wp2_with fail
        go_ret
        exact ⟨rfl, HB.out⟩
      · have K6 := Lib.hid k8
        clear k8
        go_wp2_with fail
        refine (K6.out _ V8.bel).mono ?_
        rintro e w9 ⟨rfl, hb⟩
        have HB := Lib.hid (V8.below hb).bel
        clear V8 hb c4
        go_wp2_with fail
        go_ret
        exact ⟨rfl, HB.out⟩
theorem wf_i6 {a : Int} (h : (Lit.int .i64 a).wf = true) : -9223372036854775808 ≤ a ∧ a ≤ 9223372036854775807 := by
  simp [Lit.wf, IntKind.min, IntKind.max, IntKind.bits, IntKind.signed] at h; omega
theorem targetSteps.walk (mn mx fa co num : ByteArray) (ca : Int) (h1 : mn.size ≤ reachBytes) (h2 : mx.size ≤ reachBytes) (h3 : fa.size ≤ reachBytes) (h4 : co.size ≤ reachBytes) (h5 : num.size ≤ reachBytes) (hca : (Lit.int .i64 ca).wf = true) (w : World) (htab : Tab w) (htb : TabB w) :
    Calls Tryz.prog 4 #[.agg #[.string mn, .string mx, .string fa, .string co, .int .i64 ca], .string num] w fun e w' => e = .returned (.bool true) ∧ Below w.heap.size w w' := by
  by_cases h : 400 < mn.size + mx.size + fa.size + co.size + num.size
  · exact targetSteps.early mn mx fa co num ca w htab htb h1 h2 h3 h4 h5 h
  · exact targetSteps.good mn mx fa co num ca w htab htb (by omega) (wf_i6 hca)
end Go.Proofs.YtckglpkafhmehaaGreatDoor
