/-
  And, Or, Xor of package logic, and the document's own Fold.
-/
import Derived.Test.YtdpnkncibimamaaDoorTruth
import Derived.Scope
import Derived.Control
namespace Go.Proofs.YtdpnkncibimamaaDoor
open Go.RowKit
set_option maxRecDepth 100000 in
set_option maxHeartbeats 2000000 in
theorem ruled_no (a : Option Addr) (c : Nat) (zs : List Int) (w : World) (hz : zs.length ≤ 1000) (hr : IR w a zs) :
    Calls Tryd.prog 15 #[.int .i64 0, .slice a zs.length c] w fun e w' => e = .returned (.int .i64 (ruledM 0 zs)) ∧ w = w' := by
  have Hr := Lib.hid hr
  clear hr
  go_enter Tryd.func15, Tryd.ntmps15
  go_wp2_with fail
  go_step3
  go_wp2_with fail
  refine (not_any 0 _).mono ?_
  rintro e w' ⟨rfl, rfl⟩
  rw [show notM 0 = 1 from rfl]
  go_wp2
  refine wp_label ?_
  go_wp2
  go_loop [5, 12] (fun o i => ∃ (k : Nat) (O : Int), k ≤ zs.length ∧ i = .int .i64 k ∧ o = .int .i64 O ∧ Hid (cN (zs.take k) = 0 ∧ O = if 0 < cU (zs.take k) then 2 else 1)) (fun _ i => zs.length - (intOf i).toNat)
  case atStart => exact ⟨0, 1, by omega, rfl, rfl, Lib.hid ⟨by simp [cN], by simp [cU]⟩⟩
  case round =>
    obtain ⟨k, O, hk, rfl, rfl, hf⟩ := hrel
    by_cases hlt : k < zs.length
    · obtain ⟨ad, rfl, _, hc⟩ := Hr.out k hlt
      have hts := take_snoc zs k hlt
      obtain ⟨x, hx⟩ : ∃ x, zs.getD k 0 = x := ⟨_, rfl⟩
      rw [hx] at hc hts
      rcases (show x = 0 ∨ x = 1 ∨ (x ≠ 0 ∧ x ≠ 1) from by omega) with rfl | rfl | ⟨g, g'⟩
      · have hv : Hid (ruledM 0 zs = 0) := Lib.hid (by
          have h1 : 0 < cN zs := by rw [split_at zs (k + 1), cN_app, hts, cN_snoc]; simp; omega
          unfold ruledM; simp [h1])
        clear hts hx hf
        go_wp2
        go_ret
        exact ⟨by rw [hv.out]; rfl, rfl⟩
      · have hv : Hid (cN (zs.take (k + 1)) = 0 ∧ O = if 0 < cU (zs.take (k + 1)) then 2 else 1) := Lib.hid (by
          rw [hts, cN_snoc, cU_snoc]; simpa using hf.out)
        have hb : Hid (knownB 1 = true) := Lib.hid rfl
        clear hts hx hf
        go_wp2_with fail
        refine (known_any 1 _).mono ?_
        rintro e w' ⟨rfl, rfl⟩
        rw [hb.out]
        go_wp2
        go_round
        case rel => exact ⟨k + 1, O, by omega, by go_num, rfl, hv⟩
        case measure => simp [intOf]; omega
      · have hv : Hid (cN (zs.take (k + 1)) = 0 ∧ (2 : Int) = if 0 < cU (zs.take (k + 1)) then 2 else 1) := Lib.hid (by
          rw [hts, cN_snoc, cU_snoc, if_neg g, if_neg (by omega : ¬ (x = 0 ∨ x = 1)), if_pos (by omega)]; exact ⟨hf.out.1, rfl⟩)
        have hb : Hid (knownB x = false) := Lib.hid (by unfold knownB; simp only [decide_eq_false_iff_not]; omega)
        have hxb : (x == 0) = false := beq_eq_false_iff_ne.2 g
        clear hts hx hf g g'
        go_wp2_with fail
        refine (known_any x _).mono ?_
        rintro e w' ⟨rfl, rfl⟩
        rw [hb.out]
        go_wp2
        go_round
        case rel => exact ⟨k + 1, 2, by omega, by go_num, rfl, hv⟩
        case measure => simp [intOf]; omega
    · have hv : Hid (ruledM 0 zs = O) := Lib.hid (by
        have h1 := hf.out
        rw [take_all zs k (by omega)] at h1
        unfold ruledM; rw [h1.2]; simp [h1.1])
      clear hf
      go_wp2
      go_ret
      exact ⟨by rw [hv.out]; rfl, rfl⟩
set_option maxRecDepth 100000 in
set_option maxHeartbeats 2000000 in
theorem ruled_yes (a : Option Addr) (c : Nat) (zs : List Int) (w : World) (hz : zs.length ≤ 1000) (hr : IR w a zs) :
    Calls Tryd.prog 15 #[.int .i64 1, .slice a zs.length c] w fun e w' => e = .returned (.int .i64 (ruledM 1 zs)) ∧ w = w' := by
  have Hr := Lib.hid hr
  clear hr
  go_enter Tryd.func15, Tryd.ntmps15
  go_wp2_with fail
  go_step3
  go_wp2_with fail
  refine (not_any 1 _).mono ?_
  rintro e w' ⟨rfl, rfl⟩
  rw [show notM 1 = 0 from rfl]
  go_wp2
  refine wp_label ?_
  go_wp2
  go_loop [5, 12] (fun o i => ∃ (k : Nat) (O : Int), k ≤ zs.length ∧ i = .int .i64 k ∧ o = .int .i64 O ∧ Hid (cY (zs.take k) = 0 ∧ O = if 0 < cU (zs.take k) then 2 else 0)) (fun _ i => zs.length - (intOf i).toNat)
  case atStart => exact ⟨0, 0, by omega, rfl, rfl, Lib.hid ⟨by simp [cY], by simp [cU]⟩⟩
  case round =>
    obtain ⟨k, O, hk, rfl, rfl, hf⟩ := hrel
    by_cases hlt : k < zs.length
    · obtain ⟨ad, rfl, _, hc⟩ := Hr.out k hlt
      have hts := take_snoc zs k hlt
      obtain ⟨x, hx⟩ : ∃ x, zs.getD k 0 = x := ⟨_, rfl⟩
      rw [hx] at hc hts
      rcases (show x = 1 ∨ x = 0 ∨ (x ≠ 0 ∧ x ≠ 1) from by omega) with rfl | rfl | ⟨g, g'⟩
      · have hv : Hid (ruledM 1 zs = 1) := Lib.hid (by
          have h1 : 0 < cY zs := by rw [split_at zs (k + 1), cY_app, hts, cY_snoc]; simp; omega
          unfold ruledM; simp [h1])
        clear hts hx hf
        go_wp2
        go_ret
        exact ⟨by rw [hv.out]; rfl, rfl⟩
      · have hv : Hid (cY (zs.take (k + 1)) = 0 ∧ O = if 0 < cU (zs.take (k + 1)) then 2 else 0) := Lib.hid (by
          rw [hts, cY_snoc, cU_snoc]; simpa using hf.out)
        have hb : Hid (knownB 0 = true) := Lib.hid rfl
        clear hts hx hf
        go_wp2_with fail
        refine (known_any 0 _).mono ?_
        rintro e w' ⟨rfl, rfl⟩
        rw [hb.out]
        go_wp2
        go_round
        case rel => exact ⟨k + 1, O, by omega, by go_num, rfl, hv⟩
        case measure => simp [intOf]; omega
      · have hv : Hid (cY (zs.take (k + 1)) = 0 ∧ (2 : Int) = if 0 < cU (zs.take (k + 1)) then 2 else 0) := Lib.hid (by
          rw [hts, cY_snoc, cU_snoc, if_neg g', if_neg (by omega : ¬ (x = 0 ∨ x = 1)), if_pos (by omega)]; exact ⟨hf.out.1, rfl⟩)
        have hb : Hid (knownB x = false) := Lib.hid (by unfold knownB; simp only [decide_eq_false_iff_not]; omega)
        have hxb : (x == 1) = false := beq_eq_false_iff_ne.2 g'
        clear hts hx hf g g'
        go_wp2_with fail
        refine (known_any x _).mono ?_
        rintro e w' ⟨rfl, rfl⟩
        rw [hb.out]
        go_wp2
        go_round
        case rel => exact ⟨k + 1, 2, by omega, by go_num, rfl, hv⟩
        case measure => simp [intOf]; omega
    · have hv : Hid (ruledM 1 zs = O) := Lib.hid (by
        have h1 := hf.out
        rw [take_all zs k (by omega)] at h1
        unfold ruledM; rw [h1.2]; simp [h1.1])
      clear hf
      go_wp2
      go_ret
      exact ⟨by rw [hv.out]; rfl, rfl⟩
theorem and_any (a : Option Addr) (c : Nat) (zs : List Int) (w : World) (hz : zs.length ≤ 1000) (hr : IR w a zs) :
    Calls Tryd.prog 7 #[.slice a zs.length c] w fun e w' => e = .returned (.int .i64 (ruledM 0 zs)) ∧ w = w' := by
  go_enter Tryd.func7, Tryd.ntmps7
  go_wp2_with fail
  refine (ruled_no a c zs _ hz hr).mono ?_
  rintro e w' ⟨rfl, rfl⟩
  go_wp2
  go_ret
  exact ⟨rfl, rfl⟩
theorem or_any (a : Option Addr) (c : Nat) (zs : List Int) (w : World) (hz : zs.length ≤ 1000) (hr : IR w a zs) :
    Calls Tryd.prog 9 #[.slice a zs.length c] w fun e w' => e = .returned (.int .i64 (ruledM 1 zs)) ∧ w = w' := by
  go_enter Tryd.func9, Tryd.ntmps9
  go_wp2_with fail
  refine (ruled_yes a c zs _ hz hr).mono ?_
  rintro e w' ⟨rfl, rfl⟩
  go_wp2
  go_ret
  exact ⟨rfl, rfl⟩
def foldM (how : Int) (l : List Int) : Int := if how = 0 then ruledM 0 l else if how = 1 then ruledM 1 l else if how = 2 then xorM l else firstM l
set_option maxRecDepth 100000 in
set_option maxHeartbeats 2000000 in
theorem xor_any (a : Option Addr) (c : Nat) (zs : List Int) (w : World) (hz : zs.length ≤ 1000) (hr : IR w a zs) :
    Calls Tryd.prog 10 #[.slice a zs.length c] w fun e w' => e = .returned (.int .i64 (xorM zs)) ∧ w = w' := by
  have Hr := Lib.hid hr
  clear hr
  go_enter Tryd.func10, Tryd.ntmps10
  go_wp2
  go_loop [3, 8] (fun o i => ∃ (k : Nat) (O : Bool), k ≤ zs.length ∧ i = .int .i64 k ∧ o = .bool O ∧ Hid (cU (zs.take k) = 0 ∧ O = decide (cY (zs.take k) % 2 = 1))) (fun _ i => zs.length - (intOf i).toNat)
  case atStart => exact ⟨0, false, by omega, rfl, rfl, Lib.hid ⟨by simp [cU], by simp [cY]⟩⟩
  case round =>
    obtain ⟨k, O, hk, rfl, rfl, hf⟩ := hrel
    by_cases hlt : k < zs.length
    · obtain ⟨ad, rfl, _, hc⟩ := Hr.out k hlt
      have hts := take_snoc zs k hlt
      obtain ⟨x, hx⟩ : ∃ x, zs.getD k 0 = x := ⟨_, rfl⟩
      rw [hx] at hc hts
      rcases (show x = 0 ∨ x = 1 ∨ (x ≠ 0 ∧ x ≠ 1) from by omega) with rfl | rfl | ⟨g, g'⟩
      · have hv : Hid (cU (zs.take (k + 1)) = 0 ∧ O = decide (cY (zs.take (k + 1)) % 2 = 1)) := Lib.hid (by
          rw [hts, cU_snoc, cY_snoc]; simpa using hf.out)
        have hb : Hid (knownB 0 = true) := Lib.hid rfl
        clear hts hx hf
        cases O <;>
        · go_wp2_with fail
          refine (known_any 0 _).mono ?_
          rintro e w' ⟨rfl, rfl⟩
          rw [hb.out]
          go_wp2
          go_round
          case rel => exact ⟨k + 1, _, by omega, by go_num, rfl, hv⟩
          case measure => simp [intOf]; omega
      · have hv : Hid (cU (zs.take (k + 1)) = 0 ∧ (!O) = decide (cY (zs.take (k + 1)) % 2 = 1)) := Lib.hid (by
          rw [hts, cU_snoc, cY_snoc]
          refine ⟨by simpa using hf.out.1, ?_⟩
          rw [hf.out.2, if_pos rfl]
          by_cases h2 : cY (zs.take k) % 2 = 1
          · have h3 : ¬ (cY (zs.take k) + 1) % 2 = 1 := by omega
            simp [h2, h3]
          · have h3 : (cY (zs.take k) + 1) % 2 = 1 := by omega
            simp [h2, h3])
        have hb : Hid (knownB 1 = true) := Lib.hid rfl
        clear hts hx hf
        cases O <;>
        · go_wp2_with fail
          refine (known_any 1 _).mono ?_
          rintro e w' ⟨rfl, rfl⟩
          rw [hb.out]
          go_wp2
          go_round
          case rel => exact ⟨k + 1, _, by omega, by go_num, rfl, hv⟩
          case measure => simp [intOf]; omega
      · have hv : Hid (xorM zs = 2) := Lib.hid (by
          have h1 : 0 < cU zs := by rw [split_at zs (k + 1), cU_app, hts, cU_snoc, if_neg (by omega : ¬ (x = 0 ∨ x = 1))]; omega
          unfold xorM; rw [if_pos h1])
        have hb : Hid (knownB x = false) := Lib.hid (by unfold knownB; simp only [decide_eq_false_iff_not]; omega)
        clear hts hx hf g g'
        go_wp2_with fail
        refine (known_any x _).mono ?_
        rintro e w' ⟨rfl, rfl⟩
        rw [hb.out]
        go_wp2
        go_ret
        exact ⟨by rw [hv.out]; rfl, rfl⟩
    · have hv : Hid (xorM zs = if O = true then 1 else 0) := Lib.hid (by
        have h1 := hf.out
        rw [take_all zs k (by omega)] at h1
        unfold xorM; rw [if_neg (by omega), h1.2]
        by_cases h2 : cY zs % 2 = 1
        · simp [h2]
        · simp [h2]; omega)
      clear hf
      go_wp2_with fail
      refine (truth_any O _).mono ?_
      rintro e w' ⟨rfl, rfl⟩
      rw [← hv.out]
      go_wp2
      go_ret
      exact ⟨rfl, rfl⟩
end Go.Proofs.YtdpnkncibimamaaDoor
