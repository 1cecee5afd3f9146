/-
  The walk of TargetPlain: for every input it returns true, and leaves what lay in memory as it was.
-/
import Derived.Test.YtckglpkafhmehaaGreatDoorTgM
import Derived.SizedLaws
namespace Go.Proofs.YtckglpkafhmehaaGreatDoor
open Go.RowKit
set_option linter.unusedVariables false
theorem bl_ne {a b : ByteArray} (h : a ≠ b) : (a.toList == b.toList) = false := by
  rw [beq_eq_false_iff_ne]
  intro e
  rw [ByteArray.toList_eq, ByteArray.toList_eq] at e
  refine h ?_
  obtain ⟨⟨x⟩⟩ := a
  obtain ⟨⟨y⟩⟩ := b
  simp at e
  rw [e]
theorem bl_eq (a : ByteArray) : (a.toList == a.toList) = true := by simp
set_option maxRecDepth 100000 in
set_option maxHeartbeats 4000000 in
theorem targetPlain.early (mn mx num : ByteArray) (w : World) (htab : Tab w) (htb : TabB w) (h1 : mn.size ≤ reachBytes) (h2 : mx.size ≤ reachBytes) (h3 : num.size ≤ reachBytes) (h : 300 < mn.size + mx.size + num.size) :
    Calls Tryz.prog 3 #[.string mn, .string mx, .string num] w fun e w' => e = .returned (.bool true) ∧ Below w.heap.size w w' := by
  have HAl := Lib.hid (alive_t w htab htb)
  clear htab htb
  unfold reachBytes at h1 h2 h3
  obtain ⟨A, hA⟩ : ∃ A : Int, (mn.size : Int) = A := ⟨_, rfl⟩
  obtain ⟨B, hB⟩ : ∃ A : Int, (mx.size : Int) = A := ⟨_, rfl⟩
  obtain ⟨C, hC⟩ : ∃ A : Int, (num.size : Int) = A := ⟨_, rfl⟩
  have g1 : 300 < A + B + C := by omega
  have b1 : 0 ≤ A ∧ A ≤ 140737488355328 := by omega
  have b2 : 0 ≤ B ∧ B ≤ 140737488355328 := by omega
  have b3 : 0 ≤ C ∧ C ≤ 140737488355328 := by omega
  obtain ⟨b1, b1'⟩ := b1
  obtain ⟨b2, b2'⟩ := b2
  obtain ⟨b3, b3'⟩ := b3
  clear h h1 h2 h3
  go_enter Tryz.func3, Tryz.ntmps3
  go_wp2_with fail
  refine HAl.out.mono ?_
  rintro e w1 ⟨rfl, hb⟩
  have HB := Lib.hid hb
  clear hb
  go_wp2_with fail
  go_ret
  exact ⟨rfl, HB.out⟩
set_option maxRecDepth 100000 in
set_option maxHeartbeats 8000000 in
theorem targetPlain.good (mn mx num : ByteArray) (w : World) (htab : Tab w) (htb : TabB w) (h : mn.size + mx.size + num.size ≤ 300) :
    Calls Tryz.prog 3 #[.string mn, .string mx, .string num] w fun e w' => e = .returned (.bool true) ∧ Below w.heap.size w w' := by
  have HAl := Lib.hid (alive_t w htab htb)
  have HA0 : Hid (∀ W, Below w.heap.size w W → Calls Tryz.prog 6 #[.agg #[.string ⟨#[]⟩, .string ⟨#[]⟩, .string ⟨#[]⟩, .string ⟨#[]⟩, .int .i64 0], .string num] W fun e w' => e = .returned (.string (apT Nl Nl Nl Nl 0 num)) ∧ Below W.heap.size W w') := Lib.hid (fun W hB =>
    app_any Nl Nl Nl Nl num 0 W (htab.below hB (Nat.le_refl _)) (htb.below hB (Nat.le_refl _)) (by decide) (by decide) (by decide) (by decide) (by omega) 16 1 1 (pqd_sz _ 16 (by omega) (by omega)) (by rw [qv_nl]; exact sz_zero 16 (by omega)) (by rw [qv_nl]; exact sz_zero 16 (by omega)) (by rw [qv_nl]; exact sz_one 1 (by omega)) (by rw [qv_nl]; exact sz_zero 1 (by omega)) (by omega) (by omega))
  have HA1 : Hid (∀ W u, u.size ≤ 300 → Below w.heap.size w W → Calls Tryz.prog 6 #[.agg #[.string mn, .string mx, .string ⟨#[]⟩, .string ⟨#[]⟩, .int .i64 0], .string u] W fun e w' => e = .returned (.string (apT mn mx Nl Nl 0 u)) ∧ Below W.heap.size W w') := Lib.hid (fun W u hu hB =>
    app_any mn mx Nl Nl u 0 W (htab.below hB (Nat.le_refl _)) (htb.below hB (Nat.le_refl _)) (by omega) (by omega) (by decide) (by decide) (by omega) 16 1 1 (pqd_sz _ 16 (by omega) (by omega)) (qv_sz _ 16 (by omega) (by omega)) (qv_sz _ 16 (by omega) (by omega)) (by rw [qv_nl]; exact sz_one 1 (by omega)) (by rw [qv_nl]; exact sz_zero 1 (by omega)) (by omega) (by omega))
  have HVl : Hid (∀ W, Below w.heap.size w W → Calls Tryz.prog 7 #[.agg #[.string mn, .string mx, .string ⟨#[]⟩, .string ⟨#[]⟩, .int .i64 0]] W fun e w' => e = .returned (.bool (vld mn mx Nl Nl 0)) ∧ Below W.heap.size W w') := Lib.hid (fun W hB =>
    valid_any mn mx Nl Nl 0 W (htb.below hB (Nat.le_refl _)) (by omega) (by omega) (by decide) (by decide) ((qv_sz _ 16 (by omega) (by omega)).mono (by omega)) ((qv_sz _ 16 (by omega) (by omega)).mono (by omega)))
  obtain ⟨VV, hVV⟩ : ∃ v, vld mn mx Nl Nl 0 = v := ⟨_, rfl⟩
  rw [hVV] at HVl
  have HVV := Lib.hid hVV
  have g1 : ¬ (300 : Int) < (mn.size : Int) + (mx.size : Int) + (num.size : Int) := by omega
  have g2 : mn.size ≤ 300 ∧ mx.size ≤ 300 ∧ num.size ≤ 300 := by omega
  obtain ⟨g3, g4, g5⟩ := g2
  have HS := Lib.hid (And.intro g3 (And.intro g4 g5))
  have HB0 := Lib.hid (Mq.refl w)
  clear htab htb h hVV
  rcases e0 : pq num with _ | X
  · have hA := apT_none Nl Nl Nl Nl 0 num e0
    rw [hA] at HA0
    clear hA e0 HA1
    go_enter Tryz.func3, Tryz.ntmps3
    go_wp2_with fail
    refine HAl.out.mono ?_
    rintro e w1 ⟨rfl, hb⟩
    have V1 := HB0.out.below hb
    clear hb HAl
    go_wp2_with fail
    refine (HA0.out _ V1.bel).mono ?_
    rintro e w2 ⟨rfl, hb⟩
    have V2 := (V1.below hb).alloc 25 #[.string mn, .string mx, .string ⟨#[]⟩, .string ⟨#[]⟩, .int .i64 0]
    clear V1 hb HA0
    have c0 := V2.tg0 0 rfl; have c1 := V2.tg1 0 rfl; have c2 := V2.tg2 0 rfl; have c3 := V2.tg3 0 rfl; have c4 := V2.tg4 0 rfl
    go_wp2_with fail
    refine (HVl.out _ V2.bel).mono ?_
    rintro e w3 ⟨rfl, hb⟩
    have HB := Lib.hid (V2.below hb).bel
    clear V2 hb HVl c0 c1 c2 c3 c4
    cases VV with
    | false =>
      go_wp2_with fail
      go_ret
      exact ⟨rfl, HB.out⟩
    | true =>
      go_wp2_with fail
      go_ret
      exact ⟨rfl, HB.out⟩
  · have hA := apT_same num X e0
    rw [hA] at HA0
    have hne := pq_empty e0
    have hnn := bl_eq num
    have He0 := Lib.hid e0
    clear hA e0
    go_enter Tryz.func3, Tryz.ntmps3
    go_wp2_with fail
    refine HAl.out.mono ?_
    rintro e w1 ⟨rfl, hb⟩
    have V1 := HB0.out.below hb
    clear hb HAl
    go_wp2_with fail
    refine (HA0.out _ V1.bel).mono ?_
    rintro e w2 ⟨rfl, hb⟩
    have V2 := (V1.below hb).alloc 25 #[.string mn, .string mx, .string ⟨#[]⟩, .string ⟨#[]⟩, .int .i64 0]
    clear V1 hb HA0
    have c0 := V2.tg0 0 rfl; have c1 := V2.tg1 0 rfl; have c2 := V2.tg2 0 rfl; have c3 := V2.tg3 0 rfl; have c4 := V2.tg4 0 rfl
    go_wp2_with fail
    refine (HVl.out _ V2.bel).mono ?_
    rintro e w3 ⟨rfl, hb⟩
    have V3 := V2.below hb
    clear V2 hb HVl c0 c1 c2 c3 c4
    cases VV with
    | false =>
      have HB := Lib.hid V3.bel
      clear V3
      go_wp2_with fail
      go_ret
      exact ⟨rfl, HB.out⟩
    | true =>
      obtain ⟨B, hB1, hB2, hB3, hB4⟩ := plain_math mn mx num X He0.out HVV.out
      have hBs : B.size ≤ 300 := by
        have := HS.out
        rcases hB4 with rfl | rfl | rfl <;> omega
      have H1 := Lib.hid (fun W hW => HA1.out W num HS.out.2.2 hW)
      have H2 := Lib.hid (fun W hW => HA1.out W B hBs hW)
      rw [hB1] at H1
      rw [hB2] at H2
      have HB4 := Lib.hid hB4
      clear hB1 hB2 hB4 HA1 hBs
      have c0 := V3.tg0 0 rfl; have c1 := V3.tg1 0 rfl; have c2 := V3.tg2 0 rfl; have c3 := V3.tg3 0 rfl; have c4 := V3.tg4 0 rfl
      go_wp2_with fail
      refine (H1.out _ V3.bel).mono ?_
      rintro e w4 ⟨rfl, hb⟩
      have V4 := V3.below hb
      clear V3 hb H1 c0 c1 c2 c3 c4
      have c0 := V4.tg0 0 rfl; have c1 := V4.tg1 0 rfl; have c2 := V4.tg2 0 rfl; have c3 := V4.tg3 0 rfl; have c4 := V4.tg4 0 rfl
      go_wp2_with fail
      refine (H2.out _ V4.bel).mono ?_
      rintro e w5 ⟨rfl, hb⟩
      have HB := Lib.hid (V4.below hb).bel
      clear V4 hb H2 c0 c1 c2 c3 c4
      have hbb := bl_eq B
      by_cases q1 : B = num
      · subst q1
        go_wp2_with fail
        go_ret
        exact ⟨rfl, HB.out⟩
      · have q1b := bl_ne q1
        by_cases q2 : B = mn
        · subst q2
          go_wp2_with fail
          go_ret
          exact ⟨rfl, HB.out⟩
        · have q2b := bl_ne q2
          have q3 : B = mx := by
            rcases HB4.out with h | h | h
            · exact absurd h q1
            · exact absurd h q2
            · exact h
          subst q3
          go_wp2_with fail
          go_ret
          exact ⟨rfl, HB.out⟩
theorem targetPlain.walk (mn mx num : ByteArray) (h1 : mn.size ≤ reachBytes) (h2 : mx.size ≤ reachBytes) (h3 : num.size ≤ reachBytes) (w : World) (htab : Tab w) (htb : TabB w) :
    Calls Tryz.prog 3 #[.string mn, .string mx, .string num] w fun e w' => e = .returned (.bool true) ∧ Below w.heap.size w w' := by
  by_cases h : 300 < mn.size + mx.size + num.size
  · exact targetPlain.early mn mx num w htab htb h1 h2 h3 h
  · exact targetPlain.good mn mx num w htab htb (by omega)
end Go.Proofs.YtckglpkafhmehaaGreatDoor
