/-
  The document's own Fold.
-/
import Derived.Test.YtdpnkncibimamaaDoorTruth2
namespace Go.Proofs.YtdpnkncibimamaaDoor
open Go.RowKit
def FoldAt (l : List Int) (N Y U : Nat) (F : Int) : Prop := cN l = N ∧ cY l = Y ∧ cU l = U ∧ firstM l = F
set_option maxRecDepth 100000 in
set_option maxHeartbeats 2000000 in
theorem fold_0 (a : Option Addr) (c : Nat) (zs : List Int) (w : World) (hz : zs.length ≤ 1000) (hr : IR w a zs) :
    Calls Tryd.prog 8 #[.int .i64 0, .slice a zs.length c] w fun e w' => e = .returned (.int .i64 (foldM 0 zs)) ∧ w = w' := by
  have Hr := Lib.hid hr
  clear hr
  go_enter Tryd.func8, Tryd.ntmps8
  go_wp2
  go_loop [5, 6, 7, 8, 9] (fun n y u f i => ∃ (k N Y U : Nat) (F : Int), k ≤ zs.length ∧ N ≤ k ∧ Y ≤ k ∧ U ≤ k ∧ i = .int .i64 k ∧ n = .int .i64 N ∧ y = .int .i64 Y ∧ u = .int .i64 U ∧ f = .int .i64 F ∧ Hid (FoldAt (zs.take k) N Y U F)) (fun _ _ _ _ i => zs.length - (intOf i).toNat)
  case atStart => exact ⟨0, 0, 0, 0, 2, by omega, by omega, by omega, by omega, rfl, rfl, rfl, rfl, rfl, Lib.hid ⟨by simp [cN], by simp [cY], by simp [cU], by simp [firstM]⟩⟩
  case round =>
    obtain ⟨k, N, Y, U, F, hk, hN, hY, hU, rfl, rfl, rfl, rfl, rfl, hf⟩ := hrel
    by_cases hlt : k < zs.length
    · obtain ⟨ad, rfl, _, hc⟩ := Hr.out k hlt
      have hts := take_snoc zs k hlt
      obtain ⟨x, hx⟩ : ∃ x, zs.getD k 0 = x := ⟨_, rfl⟩
      rw [hx] at hc hts
      have hi0 : (0 : Int) ≤ (k : Int) := by omega
      have hi1 : (k : Int) < (zs.length : Int) := by omega
      by_cases hF : F = 2
      all_goals
        rcases (show x = 0 ∨ x = 1 ∨ (x ≠ 0 ∧ x ≠ 1) from by omega) with rfl | rfl | ⟨g, g'⟩
      · have hv : Hid (FoldAt (zs.take (k + 1)) (N + 1) (Y) (U) (0)) := Lib.hid (by
          obtain ⟨h1, h2, h3, h4⟩ := hf.out
          rw [hts]
          refine ⟨?_, ?_, ?_, ?_⟩
          · rw [cN_snoc, h1]; simp
          · rw [cY_snoc, h2]; simp
          · rw [cU_snoc, h3]; simp
          · rw [firstM_snoc, h4]; rw [if_pos hF]; simp)
        have tF : (F == 2) = true := by simp; exact hF
        clear hts hx hf hF
        go_wp2
        go_round
        case rel => exact ⟨k + 1, N + 1, Y, U, 0, by omega, by omega, by omega, by omega, by go_num, by go_num, by go_num, by go_num, rfl, hv⟩
        case measure => simp [intOf]; omega
      · have hv : Hid (FoldAt (zs.take (k + 1)) (N) (Y + 1) (U) (1)) := Lib.hid (by
          obtain ⟨h1, h2, h3, h4⟩ := hf.out
          rw [hts]
          refine ⟨?_, ?_, ?_, ?_⟩
          · rw [cN_snoc, h1]; simp
          · rw [cY_snoc, h2]; simp
          · rw [cU_snoc, h3]; simp
          · rw [firstM_snoc, h4]; rw [if_pos hF]; simp)
        have tF : (F == 2) = true := by simp; exact hF
        clear hts hx hf hF
        go_wp2
        go_round
        case rel => exact ⟨k + 1, N, Y + 1, U, 1, by omega, by omega, by omega, by omega, by go_num, by go_num, by go_num, by go_num, rfl, hv⟩
        case measure => simp [intOf]; omega
      · have hv : Hid (FoldAt (zs.take (k + 1)) (N) (Y) (U + 1) (F)) := Lib.hid (by
          obtain ⟨h1, h2, h3, h4⟩ := hf.out
          rw [hts]
          refine ⟨?_, ?_, ?_, ?_⟩
          · rw [cN_snoc, h1]; simp ; omega
          · rw [cY_snoc, h2]; simp ; omega
          · rw [cU_snoc, h3]; simp ; omega
          · rw [firstM_snoc, h4]; rw [if_pos hF]; rw [if_neg (by omega), hF])
        have tF : (F == 2) = true := by simp; exact hF
        have t0 : (x == 0) = false := beq_eq_false_iff_ne.2 g
        have t1 : (x == 1) = false := beq_eq_false_iff_ne.2 g'
        clear hts hx hf hF g g'
        go_wp2
        go_round
        case rel => exact ⟨k + 1, N, Y, U + 1, F, by omega, by omega, by omega, by omega, by go_num, by go_num, by go_num, by go_num, rfl, hv⟩
        case measure => simp [intOf]; omega
      · have hv : Hid (FoldAt (zs.take (k + 1)) (N + 1) (Y) (U) (F)) := Lib.hid (by
          obtain ⟨h1, h2, h3, h4⟩ := hf.out
          rw [hts]
          refine ⟨?_, ?_, ?_, ?_⟩
          · rw [cN_snoc, h1]; simp
          · rw [cY_snoc, h2]; simp
          · rw [cU_snoc, h3]; simp
          · rw [firstM_snoc, h4]; rw [if_neg hF])
        have tF : (F == 2) = false := by simp; exact hF
        clear hts hx hf hF
        go_wp2
        go_round
        case rel => exact ⟨k + 1, N + 1, Y, U, F, by omega, by omega, by omega, by omega, by go_num, by go_num, by go_num, by go_num, rfl, hv⟩
        case measure => simp [intOf]; omega
      · have hv : Hid (FoldAt (zs.take (k + 1)) (N) (Y + 1) (U) (F)) := Lib.hid (by
          obtain ⟨h1, h2, h3, h4⟩ := hf.out
          rw [hts]
          refine ⟨?_, ?_, ?_, ?_⟩
          · rw [cN_snoc, h1]; simp
          · rw [cY_snoc, h2]; simp
          · rw [cU_snoc, h3]; simp
          · rw [firstM_snoc, h4]; rw [if_neg hF])
        have tF : (F == 2) = false := by simp; exact hF
        clear hts hx hf hF
        go_wp2
        go_round
        case rel => exact ⟨k + 1, N, Y + 1, U, F, by omega, by omega, by omega, by omega, by go_num, by go_num, by go_num, by go_num, rfl, hv⟩
        case measure => simp [intOf]; omega
      · have hv : Hid (FoldAt (zs.take (k + 1)) (N) (Y) (U + 1) (F)) := Lib.hid (by
          obtain ⟨h1, h2, h3, h4⟩ := hf.out
          rw [hts]
          refine ⟨?_, ?_, ?_, ?_⟩
          · rw [cN_snoc, h1]; simp ; omega
          · rw [cY_snoc, h2]; simp ; omega
          · rw [cU_snoc, h3]; simp ; omega
          · rw [firstM_snoc, h4]; rw [if_neg hF])
        have tF : (F == 2) = false := by simp; exact hF
        have t0 : (x == 0) = false := beq_eq_false_iff_ne.2 g
        have t1 : (x == 1) = false := beq_eq_false_iff_ne.2 g'
        clear hts hx hf hF g g'
        go_wp2
        go_round
        case rel => exact ⟨k + 1, N, Y, U + 1, F, by omega, by omega, by omega, by omega, by go_num, by go_num, by go_num, by go_num, rfl, hv⟩
        case measure => simp [intOf]; omega
    · have hv0 : FoldAt zs N Y U F := by have := hf.out; rw [take_all zs k (by omega)] at this; exact this
      obtain ⟨h1, h2, h3, h4⟩ := hv0
      rcases (show (0 < N) ∨ (N = 0 ∧ U = 0) ∨ (N = 0 ∧ 0 < U) from by first | trivial | omega) with g0 | ⟨g0, g1⟩ | ⟨g0, g1⟩
      · have hv : Hid (foldM 0 zs = 0) := Lib.hid (by unfold foldM; simp only [if_true]; unfold ruledM; rw [h1, h3]; simp <;> omega)
        have dN : decide (0 < (N : Int)) = true := by simp; omega
        have eN : ((N : Int) == 0) = false := by simp; omega
        clear h1 h2 h3 h4 hf
        go_wp2
        go_ret
        exact ⟨by rw [hv.out]; rfl, rfl⟩
      · have hv : Hid (foldM 0 zs = 1) := Lib.hid (by unfold foldM; simp only [if_true]; unfold ruledM; rw [h1, h3]; simp <;> omega)
        have dN : decide (0 < (N : Int)) = false := by simp; omega
        have eN : ((N : Int) == 0) = true := by simp; omega
        have dU : decide (0 < (U : Int)) = false := by simp; omega
        have eU : ((U : Int) == 0) = true := by simp; omega
        clear h1 h2 h3 h4 hf
        go_wp2
        go_ret
        exact ⟨by rw [hv.out]; rfl, rfl⟩
      · have hv : Hid (foldM 0 zs = 2) := Lib.hid (by unfold foldM; simp only [if_true]; unfold ruledM; rw [h1, h3]; simp <;> omega)
        have dN : decide (0 < (N : Int)) = false := by simp; omega
        have eN : ((N : Int) == 0) = true := by simp; omega
        have dU : decide (0 < (U : Int)) = true := by simp; omega
        have eU : ((U : Int) == 0) = false := by simp; omega
        clear h1 h2 h3 h4 hf
        go_wp2
        go_ret
        exact ⟨by rw [hv.out]; rfl, rfl⟩
set_option maxRecDepth 100000 in
set_option maxHeartbeats 2000000 in
theorem fold_1 (a : Option Addr) (c : Nat) (zs : List Int) (w : World) (hz : zs.length ≤ 1000) (hr : IR w a zs) :
    Calls Tryd.prog 8 #[.int .i64 1, .slice a zs.length c] w fun e w' => e = .returned (.int .i64 (foldM 1 zs)) ∧ w = w' := by
  have Hr := Lib.hid hr
  clear hr
  go_enter Tryd.func8, Tryd.ntmps8
  go_wp2
  go_loop [5, 6, 7, 8, 9] (fun n y u f i => ∃ (k N Y U : Nat) (F : Int), k ≤ zs.length ∧ N ≤ k ∧ Y ≤ k ∧ U ≤ k ∧ i = .int .i64 k ∧ n = .int .i64 N ∧ y = .int .i64 Y ∧ u = .int .i64 U ∧ f = .int .i64 F ∧ Hid (FoldAt (zs.take k) N Y U F)) (fun _ _ _ _ i => zs.length - (intOf i).toNat)
  case atStart => exact ⟨0, 0, 0, 0, 2, by omega, by omega, by omega, by omega, rfl, rfl, rfl, rfl, rfl, Lib.hid ⟨by simp [cN], by simp [cY], by simp [cU], by simp [firstM]⟩⟩
  case round =>
    obtain ⟨k, N, Y, U, F, hk, hN, hY, hU, rfl, rfl, rfl, rfl, rfl, hf⟩ := hrel
    by_cases hlt : k < zs.length
    · obtain ⟨ad, rfl, _, hc⟩ := Hr.out k hlt
      have hts := take_snoc zs k hlt
      obtain ⟨x, hx⟩ : ∃ x, zs.getD k 0 = x := ⟨_, rfl⟩
      rw [hx] at hc hts
      have hi0 : (0 : Int) ≤ (k : Int) := by omega
      have hi1 : (k : Int) < (zs.length : Int) := by omega
      by_cases hF : F = 2
      all_goals
        rcases (show x = 0 ∨ x = 1 ∨ (x ≠ 0 ∧ x ≠ 1) from by omega) with rfl | rfl | ⟨g, g'⟩
      · have hv : Hid (FoldAt (zs.take (k + 1)) (N + 1) (Y) (U) (0)) := Lib.hid (by
          obtain ⟨h1, h2, h3, h4⟩ := hf.out
          rw [hts]
          refine ⟨?_, ?_, ?_, ?_⟩
          · rw [cN_snoc, h1]; simp
          · rw [cY_snoc, h2]; simp
          · rw [cU_snoc, h3]; simp
          · rw [firstM_snoc, h4]; rw [if_pos hF]; simp)
        have tF : (F == 2) = true := by simp; exact hF
        clear hts hx hf hF
        go_wp2
        go_round
        case rel => exact ⟨k + 1, N + 1, Y, U, 0, by omega, by omega, by omega, by omega, by go_num, by go_num, by go_num, by go_num, rfl, hv⟩
        case measure => simp [intOf]; omega
      · have hv : Hid (FoldAt (zs.take (k + 1)) (N) (Y + 1) (U) (1)) := Lib.hid (by
          obtain ⟨h1, h2, h3, h4⟩ := hf.out
          rw [hts]
          refine ⟨?_, ?_, ?_, ?_⟩
          · rw [cN_snoc, h1]; simp
          · rw [cY_snoc, h2]; simp
          · rw [cU_snoc, h3]; simp
          · rw [firstM_snoc, h4]; rw [if_pos hF]; simp)
        have tF : (F == 2) = true := by simp; exact hF
        clear hts hx hf hF
        go_wp2
        go_round
        case rel => exact ⟨k + 1, N, Y + 1, U, 1, by omega, by omega, by omega, by omega, by go_num, by go_num, by go_num, by go_num, rfl, hv⟩
        case measure => simp [intOf]; omega
      · have hv : Hid (FoldAt (zs.take (k + 1)) (N) (Y) (U + 1) (F)) := Lib.hid (by
          obtain ⟨h1, h2, h3, h4⟩ := hf.out
          rw [hts]
          refine ⟨?_, ?_, ?_, ?_⟩
          · rw [cN_snoc, h1]; simp ; omega
          · rw [cY_snoc, h2]; simp ; omega
          · rw [cU_snoc, h3]; simp ; omega
          · rw [firstM_snoc, h4]; rw [if_pos hF]; rw [if_neg (by omega), hF])
        have tF : (F == 2) = true := by simp; exact hF
        have t0 : (x == 0) = false := beq_eq_false_iff_ne.2 g
        have t1 : (x == 1) = false := beq_eq_false_iff_ne.2 g'
        clear hts hx hf hF g g'
        go_wp2
        go_round
        case rel => exact ⟨k + 1, N, Y, U + 1, F, by omega, by omega, by omega, by omega, by go_num, by go_num, by go_num, by go_num, rfl, hv⟩
        case measure => simp [intOf]; omega
      · have hv : Hid (FoldAt (zs.take (k + 1)) (N + 1) (Y) (U) (F)) := Lib.hid (by
          obtain ⟨h1, h2, h3, h4⟩ := hf.out
          rw [hts]
          refine ⟨?_, ?_, ?_, ?_⟩
          · rw [cN_snoc, h1]; simp
          · rw [cY_snoc, h2]; simp
          · rw [cU_snoc, h3]; simp
          · rw [firstM_snoc, h4]; rw [if_neg hF])
        have tF : (F == 2) = false := by simp; exact hF
        clear hts hx hf hF
        go_wp2
        go_round
        case rel => exact ⟨k + 1, N + 1, Y, U, F, by omega, by omega, by omega, by omega, by go_num, by go_num, by go_num, by go_num, rfl, hv⟩
        case measure => simp [intOf]; omega
      · have hv : Hid (FoldAt (zs.take (k + 1)) (N) (Y + 1) (U) (F)) := Lib.hid (by
          obtain ⟨h1, h2, h3, h4⟩ := hf.out
          rw [hts]
          refine ⟨?_, ?_, ?_, ?_⟩
          · rw [cN_snoc, h1]; simp
          · rw [cY_snoc, h2]; simp
          · rw [cU_snoc, h3]; simp
          · rw [firstM_snoc, h4]; rw [if_neg hF])
        have tF : (F == 2) = false := by simp; exact hF
        clear hts hx hf hF
        go_wp2
        go_round
        case rel => exact ⟨k + 1, N, Y + 1, U, F, by omega, by omega, by omega, by omega, by go_num, by go_num, by go_num, by go_num, rfl, hv⟩
        case measure => simp [intOf]; omega
      · have hv : Hid (FoldAt (zs.take (k + 1)) (N) (Y) (U + 1) (F)) := Lib.hid (by
          obtain ⟨h1, h2, h3, h4⟩ := hf.out
          rw [hts]
          refine ⟨?_, ?_, ?_, ?_⟩
          · rw [cN_snoc, h1]; simp ; omega
          · rw [cY_snoc, h2]; simp ; omega
          · rw [cU_snoc, h3]; simp ; omega
          · rw [firstM_snoc, h4]; rw [if_neg hF])
        have tF : (F == 2) = false := by simp; exact hF
        have t0 : (x == 0) = false := beq_eq_false_iff_ne.2 g
        have t1 : (x == 1) = false := beq_eq_false_iff_ne.2 g'
        clear hts hx hf hF g g'
        go_wp2
        go_round
        case rel => exact ⟨k + 1, N, Y, U + 1, F, by omega, by omega, by omega, by omega, by go_num, by go_num, by go_num, by go_num, rfl, hv⟩
        case measure => simp [intOf]; omega
    · have hv0 : FoldAt zs N Y U F := by have := hf.out; rw [take_all zs k (by omega)] at this; exact this
      obtain ⟨h1, h2, h3, h4⟩ := hv0
      rcases (show (Y = 0 ∧ U = 0) ∨ (0 < Y) ∨ (Y = 0 ∧ 0 < U) from by first | trivial | omega) with ⟨g0, g1⟩ | g0 | ⟨g0, g1⟩
      · have hv : Hid (foldM 1 zs = 0) := Lib.hid (by unfold foldM; simp only []; unfold ruledM; rw [h2, h3]; simp <;> omega)
        have dY : decide (0 < (Y : Int)) = false := by simp; omega
        have eY : ((Y : Int) == 0) = true := by simp; omega
        have dU : decide (0 < (U : Int)) = false := by simp; omega
        have eU : ((U : Int) == 0) = true := by simp; omega
        clear h1 h2 h3 h4 hf
        go_wp2
        go_ret
        exact ⟨by rw [hv.out]; rfl, rfl⟩
      · have hv : Hid (foldM 1 zs = 1) := Lib.hid (by unfold foldM; simp only []; unfold ruledM; rw [h2, h3]; simp <;> omega)
        have dY : decide (0 < (Y : Int)) = true := by simp; omega
        have eY : ((Y : Int) == 0) = false := by simp; omega
        clear h1 h2 h3 h4 hf
        go_wp2
        go_ret
        exact ⟨by rw [hv.out]; rfl, rfl⟩
      · have hv : Hid (foldM 1 zs = 2) := Lib.hid (by unfold foldM; simp only []; unfold ruledM; rw [h2, h3]; simp <;> omega)
        have dY : decide (0 < (Y : Int)) = false := by simp; omega
        have eY : ((Y : Int) == 0) = true := by simp; omega
        have dU : decide (0 < (U : Int)) = true := by simp; omega
        have eU : ((U : Int) == 0) = false := by simp; omega
        clear h1 h2 h3 h4 hf
        go_wp2
        go_ret
        exact ⟨by rw [hv.out]; rfl, rfl⟩
set_option maxRecDepth 100000 in
set_option maxHeartbeats 2000000 in
theorem fold_2 (a : Option Addr) (c : Nat) (zs : List Int) (w : World) (hz : zs.length ≤ 1000) (hr : IR w a zs) :
    Calls Tryd.prog 8 #[.int .i64 2, .slice a zs.length c] w fun e w' => e = .returned (.int .i64 (foldM 2 zs)) ∧ w = w' := by
  have Hr := Lib.hid hr
  clear hr
  go_enter Tryd.func8, Tryd.ntmps8
  go_wp2
  go_loop [5, 6, 7, 8, 9] (fun n y u f i => ∃ (k N Y U : Nat) (F : Int), k ≤ zs.length ∧ N ≤ k ∧ Y ≤ k ∧ U ≤ k ∧ i = .int .i64 k ∧ n = .int .i64 N ∧ y = .int .i64 Y ∧ u = .int .i64 U ∧ f = .int .i64 F ∧ Hid (FoldAt (zs.take k) N Y U F)) (fun _ _ _ _ i => zs.length - (intOf i).toNat)
  case atStart => exact ⟨0, 0, 0, 0, 2, by omega, by omega, by omega, by omega, rfl, rfl, rfl, rfl, rfl, Lib.hid ⟨by simp [cN], by simp [cY], by simp [cU], by simp [firstM]⟩⟩
  case round =>
    obtain ⟨k, N, Y, U, F, hk, hN, hY, hU, rfl, rfl, rfl, rfl, rfl, hf⟩ := hrel
    by_cases hlt : k < zs.length
    · obtain ⟨ad, rfl, _, hc⟩ := Hr.out k hlt
      have hts := take_snoc zs k hlt
      obtain ⟨x, hx⟩ : ∃ x, zs.getD k 0 = x := ⟨_, rfl⟩
      rw [hx] at hc hts
      have hi0 : (0 : Int) ≤ (k : Int) := by omega
      have hi1 : (k : Int) < (zs.length : Int) := by omega
      by_cases hF : F = 2
      all_goals
        rcases (show x = 0 ∨ x = 1 ∨ (x ≠ 0 ∧ x ≠ 1) from by omega) with rfl | rfl | ⟨g, g'⟩
      · have hv : Hid (FoldAt (zs.take (k + 1)) (N + 1) (Y) (U) (0)) := Lib.hid (by
          obtain ⟨h1, h2, h3, h4⟩ := hf.out
          rw [hts]
          refine ⟨?_, ?_, ?_, ?_⟩
          · rw [cN_snoc, h1]; simp
          · rw [cY_snoc, h2]; simp
          · rw [cU_snoc, h3]; simp
          · rw [firstM_snoc, h4]; rw [if_pos hF]; simp)
        have tF : (F == 2) = true := by simp; exact hF
        clear hts hx hf hF
        go_wp2
        go_round
        case rel => exact ⟨k + 1, N + 1, Y, U, 0, by omega, by omega, by omega, by omega, by go_num, by go_num, by go_num, by go_num, rfl, hv⟩
        case measure => simp [intOf]; omega
      · have hv : Hid (FoldAt (zs.take (k + 1)) (N) (Y + 1) (U) (1)) := Lib.hid (by
          obtain ⟨h1, h2, h3, h4⟩ := hf.out
          rw [hts]
          refine ⟨?_, ?_, ?_, ?_⟩
          · rw [cN_snoc, h1]; simp
          · rw [cY_snoc, h2]; simp
          · rw [cU_snoc, h3]; simp
          · rw [firstM_snoc, h4]; rw [if_pos hF]; simp)
        have tF : (F == 2) = true := by simp; exact hF
        clear hts hx hf hF
        go_wp2
        go_round
        case rel => exact ⟨k + 1, N, Y + 1, U, 1, by omega, by omega, by omega, by omega, by go_num, by go_num, by go_num, by go_num, rfl, hv⟩
        case measure => simp [intOf]; omega
      · have hv : Hid (FoldAt (zs.take (k + 1)) (N) (Y) (U + 1) (F)) := Lib.hid (by
          obtain ⟨h1, h2, h3, h4⟩ := hf.out
          rw [hts]
          refine ⟨?_, ?_, ?_, ?_⟩
          · rw [cN_snoc, h1]; simp ; omega
          · rw [cY_snoc, h2]; simp ; omega
          · rw [cU_snoc, h3]; simp ; omega
          · rw [firstM_snoc, h4]; rw [if_pos hF]; rw [if_neg (by omega), hF])
        have tF : (F == 2) = true := by simp; exact hF
        have t0 : (x == 0) = false := beq_eq_false_iff_ne.2 g
        have t1 : (x == 1) = false := beq_eq_false_iff_ne.2 g'
        clear hts hx hf hF g g'
        go_wp2
        go_round
        case rel => exact ⟨k + 1, N, Y, U + 1, F, by omega, by omega, by omega, by omega, by go_num, by go_num, by go_num, by go_num, rfl, hv⟩
        case measure => simp [intOf]; omega
      · have hv : Hid (FoldAt (zs.take (k + 1)) (N + 1) (Y) (U) (F)) := Lib.hid (by
          obtain ⟨h1, h2, h3, h4⟩ := hf.out
          rw [hts]
          refine ⟨?_, ?_, ?_, ?_⟩
          · rw [cN_snoc, h1]; simp
          · rw [cY_snoc, h2]; simp
          · rw [cU_snoc, h3]; simp
          · rw [firstM_snoc, h4]; rw [if_neg hF])
        have tF : (F == 2) = false := by simp; exact hF
        clear hts hx hf hF
        go_wp2
        go_round
        case rel => exact ⟨k + 1, N + 1, Y, U, F, by omega, by omega, by omega, by omega, by go_num, by go_num, by go_num, by go_num, rfl, hv⟩
        case measure => simp [intOf]; omega
      · have hv : Hid (FoldAt (zs.take (k + 1)) (N) (Y + 1) (U) (F)) := Lib.hid (by
          obtain ⟨h1, h2, h3, h4⟩ := hf.out
          rw [hts]
          refine ⟨?_, ?_, ?_, ?_⟩
          · rw [cN_snoc, h1]; simp
          · rw [cY_snoc, h2]; simp
          · rw [cU_snoc, h3]; simp
          · rw [firstM_snoc, h4]; rw [if_neg hF])
        have tF : (F == 2) = false := by simp; exact hF
        clear hts hx hf hF
        go_wp2
        go_round
        case rel => exact ⟨k + 1, N, Y + 1, U, F, by omega, by omega, by omega, by omega, by go_num, by go_num, by go_num, by go_num, rfl, hv⟩
        case measure => simp [intOf]; omega
      · have hv : Hid (FoldAt (zs.take (k + 1)) (N) (Y) (U + 1) (F)) := Lib.hid (by
          obtain ⟨h1, h2, h3, h4⟩ := hf.out
          rw [hts]
          refine ⟨?_, ?_, ?_, ?_⟩
          · rw [cN_snoc, h1]; simp ; omega
          · rw [cY_snoc, h2]; simp ; omega
          · rw [cU_snoc, h3]; simp ; omega
          · rw [firstM_snoc, h4]; rw [if_neg hF])
        have tF : (F == 2) = false := by simp; exact hF
        have t0 : (x == 0) = false := beq_eq_false_iff_ne.2 g
        have t1 : (x == 1) = false := beq_eq_false_iff_ne.2 g'
        clear hts hx hf hF g g'
        go_wp2
        go_round
        case rel => exact ⟨k + 1, N, Y, U + 1, F, by omega, by omega, by omega, by omega, by go_num, by go_num, by go_num, by go_num, rfl, hv⟩
        case measure => simp [intOf]; omega
    · have hv0 : FoldAt zs N Y U F := by have := hf.out; rw [take_all zs k (by omega)] at this; exact this
      obtain ⟨h1, h2, h3, h4⟩ := hv0
      rcases (show (0 < U) ∨ (U = 0) from by first | trivial | omega) with g0 | g0
      · have hv : Hid (foldM 2 zs = 2) := Lib.hid (by unfold foldM; simp only []; unfold xorM; rw [h3, h2]; simp <;> omega)
        have dU : decide (0 < (U : Int)) = true := by simp; omega
        have eU : ((U : Int) == 0) = false := by simp; omega
        clear h1 h2 h3 h4 hf
        go_wp2
        go_ret
        exact ⟨by rw [hv.out]; rfl, rfl⟩
      · have hv : Hid (foldM 2 zs = ((Y % 2 : Nat) : Int)) := Lib.hid (by unfold foldM; simp only []; unfold xorM; rw [h3, h2]; simp <;> omega)
        have dU : decide (0 < (U : Int)) = false := by simp; omega
        have eU : ((U : Int) == 0) = true := by simp; omega
        clear h1 h2 h3 h4 hf
        go_wp2
        go_ret
        exact ⟨by rw [hv.out]; rfl, rfl⟩
set_option maxRecDepth 100000 in
set_option maxHeartbeats 2000000 in
theorem fold_3 (a : Option Addr) (c : Nat) (zs : List Int) (w : World) (hz : zs.length ≤ 1000) (hr : IR w a zs) :
    Calls Tryd.prog 8 #[.int .i64 3, .slice a zs.length c] w fun e w' => e = .returned (.int .i64 (foldM 3 zs)) ∧ w = w' := by
  have Hr := Lib.hid hr
  clear hr
  go_enter Tryd.func8, Tryd.ntmps8
  go_wp2
  go_loop [5, 6, 7, 8, 9] (fun n y u f i => ∃ (k N Y U : Nat) (F : Int), k ≤ zs.length ∧ N ≤ k ∧ Y ≤ k ∧ U ≤ k ∧ i = .int .i64 k ∧ n = .int .i64 N ∧ y = .int .i64 Y ∧ u = .int .i64 U ∧ f = .int .i64 F ∧ Hid (FoldAt (zs.take k) N Y U F)) (fun _ _ _ _ i => zs.length - (intOf i).toNat)
  case atStart => exact ⟨0, 0, 0, 0, 2, by omega, by omega, by omega, by omega, rfl, rfl, rfl, rfl, rfl, Lib.hid ⟨by simp [cN], by simp [cY], by simp [cU], by simp [firstM]⟩⟩
  case round =>
    obtain ⟨k, N, Y, U, F, hk, hN, hY, hU, rfl, rfl, rfl, rfl, rfl, hf⟩ := hrel
    by_cases hlt : k < zs.length
    · obtain ⟨ad, rfl, _, hc⟩ := Hr.out k hlt
      have hts := take_snoc zs k hlt
      obtain ⟨x, hx⟩ : ∃ x, zs.getD k 0 = x := ⟨_, rfl⟩
      rw [hx] at hc hts
      have hi0 : (0 : Int) ≤ (k : Int) := by omega
      have hi1 : (k : Int) < (zs.length : Int) := by omega
      by_cases hF : F = 2
      all_goals
        rcases (show x = 0 ∨ x = 1 ∨ (x ≠ 0 ∧ x ≠ 1) from by omega) with rfl | rfl | ⟨g, g'⟩
      · have hv : Hid (FoldAt (zs.take (k + 1)) (N + 1) (Y) (U) (0)) := Lib.hid (by
          obtain ⟨h1, h2, h3, h4⟩ := hf.out
          rw [hts]
          refine ⟨?_, ?_, ?_, ?_⟩
          · rw [cN_snoc, h1]; simp
          · rw [cY_snoc, h2]; simp
          · rw [cU_snoc, h3]; simp
          · rw [firstM_snoc, h4]; rw [if_pos hF]; simp)
        have tF : (F == 2) = true := by simp; exact hF
        clear hts hx hf hF
        go_wp2
        go_round
        case rel => exact ⟨k + 1, N + 1, Y, U, 0, by omega, by omega, by omega, by omega, by go_num, by go_num, by go_num, by go_num, rfl, hv⟩
        case measure => simp [intOf]; omega
      · have hv : Hid (FoldAt (zs.take (k + 1)) (N) (Y + 1) (U) (1)) := Lib.hid (by
          obtain ⟨h1, h2, h3, h4⟩ := hf.out
          rw [hts]
          refine ⟨?_, ?_, ?_, ?_⟩
          · rw [cN_snoc, h1]; simp
          · rw [cY_snoc, h2]; simp
          · rw [cU_snoc, h3]; simp
          · rw [firstM_snoc, h4]; rw [if_pos hF]; simp)
        have tF : (F == 2) = true := by simp; exact hF
        clear hts hx hf hF
        go_wp2
        go_round
        case rel => exact ⟨k + 1, N, Y + 1, U, 1, by omega, by omega, by omega, by omega, by go_num, by go_num, by go_num, by go_num, rfl, hv⟩
        case measure => simp [intOf]; omega
      · have hv : Hid (FoldAt (zs.take (k + 1)) (N) (Y) (U + 1) (F)) := Lib.hid (by
          obtain ⟨h1, h2, h3, h4⟩ := hf.out
          rw [hts]
          refine ⟨?_, ?_, ?_, ?_⟩
          · rw [cN_snoc, h1]; simp ; omega
          · rw [cY_snoc, h2]; simp ; omega
          · rw [cU_snoc, h3]; simp ; omega
          · rw [firstM_snoc, h4]; rw [if_pos hF]; rw [if_neg (by omega), hF])
        have tF : (F == 2) = true := by simp; exact hF
        have t0 : (x == 0) = false := beq_eq_false_iff_ne.2 g
        have t1 : (x == 1) = false := beq_eq_false_iff_ne.2 g'
        clear hts hx hf hF g g'
        go_wp2
        go_round
        case rel => exact ⟨k + 1, N, Y, U + 1, F, by omega, by omega, by omega, by omega, by go_num, by go_num, by go_num, by go_num, rfl, hv⟩
        case measure => simp [intOf]; omega
      · have hv : Hid (FoldAt (zs.take (k + 1)) (N + 1) (Y) (U) (F)) := Lib.hid (by
          obtain ⟨h1, h2, h3, h4⟩ := hf.out
          rw [hts]
          refine ⟨?_, ?_, ?_, ?_⟩
          · rw [cN_snoc, h1]; simp
          · rw [cY_snoc, h2]; simp
          · rw [cU_snoc, h3]; simp
          · rw [firstM_snoc, h4]; rw [if_neg hF])
        have tF : (F == 2) = false := by simp; exact hF
        clear hts hx hf hF
        go_wp2
        go_round
        case rel => exact ⟨k + 1, N + 1, Y, U, F, by omega, by omega, by omega, by omega, by go_num, by go_num, by go_num, by go_num, rfl, hv⟩
        case measure => simp [intOf]; omega
      · have hv : Hid (FoldAt (zs.take (k + 1)) (N) (Y + 1) (U) (F)) := Lib.hid (by
          obtain ⟨h1, h2, h3, h4⟩ := hf.out
          rw [hts]
          refine ⟨?_, ?_, ?_, ?_⟩
          · rw [cN_snoc, h1]; simp
          · rw [cY_snoc, h2]; simp
          · rw [cU_snoc, h3]; simp
          · rw [firstM_snoc, h4]; rw [if_neg hF])
        have tF : (F == 2) = false := by simp; exact hF
        clear hts hx hf hF
        go_wp2
        go_round
        case rel => exact ⟨k + 1, N, Y + 1, U, F, by omega, by omega, by omega, by omega, by go_num, by go_num, by go_num, by go_num, rfl, hv⟩
        case measure => simp [intOf]; omega
      · have hv : Hid (FoldAt (zs.take (k + 1)) (N) (Y) (U + 1) (F)) := Lib.hid (by
          obtain ⟨h1, h2, h3, h4⟩ := hf.out
          rw [hts]
          refine ⟨?_, ?_, ?_, ?_⟩
          · rw [cN_snoc, h1]; simp ; omega
          · rw [cY_snoc, h2]; simp ; omega
          · rw [cU_snoc, h3]; simp ; omega
          · rw [firstM_snoc, h4]; rw [if_neg hF])
        have tF : (F == 2) = false := by simp; exact hF
        have t0 : (x == 0) = false := beq_eq_false_iff_ne.2 g
        have t1 : (x == 1) = false := beq_eq_false_iff_ne.2 g'
        clear hts hx hf hF g g'
        go_wp2
        go_round
        case rel => exact ⟨k + 1, N, Y, U + 1, F, by omega, by omega, by omega, by omega, by go_num, by go_num, by go_num, by go_num, rfl, hv⟩
        case measure => simp [intOf]; omega
    · have hv0 : FoldAt zs N Y U F := by have := hf.out; rw [take_all zs k (by omega)] at this; exact this
      obtain ⟨h1, h2, h3, h4⟩ := hv0
      have hv : Hid (foldM 3 zs = F) := Lib.hid h4
      clear h1 h2 h3 h4 hf
      go_wp2
      go_ret
      exact ⟨by rw [hv.out]; rfl, rfl⟩
end Go.Proofs.YtdpnkncibimamaaDoor
