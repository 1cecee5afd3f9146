/-
  And, Or, Xor, First, Not of package logic, and the document's own Fold: what they answer.
-/
import Derived.Test.YtdpnkncibimamaaDoorRows
import Derived.Test.YtdpnkncibimamaaDoorTruthMath
import Derived.WalkKit
import Derived.WalkSpells
import Derived.WalkLawsBesides
import Derived.Below
namespace Go.Proofs.YtdpnkncibimamaaDoor
open Go.RowKit
theorem ret_int {k : IntKind} {a b : Int} (h : a = b) : Ending.returned (.int k a) = .returned (.int k b) := by rw [h]
/-- The row at a holds the ints zs. -/
def IR (w : World) (a : Option Addr) (zs : List Int) : Prop := ∀ i, i < zs.length → ∃ ad, a = some ad ∧ ad.block < w.heap.size ∧ w.cell? (ad.add i) = some (.int .i64 (zs.getD i 0))
def knownB (a : Int) : Bool := decide (a = 0 ∨ a = 1)
set_option maxHeartbeats 400000 in
theorem known_any (a : Int) (w : World) : Calls Tryd.prog 16 #[.int .i64 a] w fun e w' => e = .returned (.bool (knownB a)) ∧ w = w' := by
  rcases (show a = 0 ∨ a = 1 ∨ (a ≠ 0 ∧ a ≠ 1) from by omega) with rfl | rfl | ⟨g, g'⟩
  · go_enter Tryd.func16, Tryd.ntmps16
    go_wp2
    go_ret
    exact ⟨rfl, rfl⟩
  · go_enter Tryd.func16, Tryd.ntmps16
    go_wp2
    go_ret
    exact ⟨rfl, rfl⟩
  · have t0 : (a == 0) = false := beq_eq_false_iff_ne.2 g
    have t1 : (a == 1) = false := beq_eq_false_iff_ne.2 g'
    have hv : Hid (knownB a = false) := Lib.hid (by unfold knownB; simp only [decide_eq_false_iff_not]; omega)
    clear g g'
    go_enter Tryd.func16, Tryd.ntmps16
    go_wp2
    go_ret
    exact ⟨by rw [hv.out]; rfl, rfl⟩
set_option maxHeartbeats 400000 in
theorem truth_any (b : Bool) (w : World) : Calls Tryd.prog 17 #[.bool b] w fun e w' => e = .returned (.int .i64 (if b = true then 1 else 0)) ∧ w = w' := by
  cases b with
  | false =>
    go_enter Tryd.func17, Tryd.ntmps17
    go_wp2
    go_ret
    exact ⟨rfl, rfl⟩
  | true =>
    go_enter Tryd.func17, Tryd.ntmps17
    go_wp2
    go_ret
    exact ⟨rfl, rfl⟩
set_option maxHeartbeats 400000 in
theorem not_any (a : Int) (w : World) : Calls Tryd.prog 12 #[.int .i64 a] w fun e w' => e = .returned (.int .i64 (notM a)) ∧ w = w' := by
  rcases (show a = 0 ∨ a = 1 ∨ (a ≠ 0 ∧ a ≠ 1) from by omega) with rfl | rfl | ⟨g, g'⟩
  · go_enter Tryd.func12, Tryd.ntmps12
    go_wp2_with fail
    refine (known_any 0 _).mono ?_
    rintro e w' ⟨rfl, rfl⟩
    rw [show knownB 0 = true from rfl]
    go_wp2_with fail
    refine (truth_any true _).mono ?_
    rintro e w' ⟨rfl, rfl⟩
    go_wp2
    go_ret
    exact ⟨rfl, rfl⟩
  · go_enter Tryd.func12, Tryd.ntmps12
    go_wp2_with fail
    refine (known_any 1 _).mono ?_
    rintro e w' ⟨rfl, rfl⟩
    rw [show knownB 1 = true from rfl]
    go_wp2_with fail
    refine (truth_any false _).mono ?_
    rintro e w' ⟨rfl, rfl⟩
    go_wp2
    go_ret
    exact ⟨rfl, rfl⟩
  · have hv : Hid (knownB a = false) := Lib.hid (by unfold knownB; simp only [decide_eq_false_iff_not]; omega)
    have hn : Hid (notM a = 2) := Lib.hid (by unfold notM; rw [if_neg g, if_neg g'])
    clear g g'
    go_enter Tryd.func12, Tryd.ntmps12
    go_wp2_with fail
    refine (known_any a _).mono ?_
    rintro e w' ⟨rfl, rfl⟩
    rw [hv.out]
    go_wp2
    go_ret
    exact ⟨by rw [hn.out]; rfl, rfl⟩
set_option maxRecDepth 100000 in
set_option maxHeartbeats 1000000 in
theorem first_any (a : Option Addr) (c : Nat) (zs : List Int) (w : World) (hz : zs.length ≤ 1000) (hr : IR w a zs) :
    Calls Tryd.prog 11 #[.slice a zs.length c] w fun e w' => e = .returned (.int .i64 (firstM zs)) ∧ w = w' := by
  have Hr := Lib.hid hr
  clear hr
  go_enter Tryd.func11, Tryd.ntmps11
  go_wp2
  go_loop [7] (fun i => ∃ k : Nat, k ≤ zs.length ∧ i = .int .i64 k ∧ Hid (firstM (zs.take k) = 2)) (fun i => zs.length - (intOf i).toNat)
  case atStart => exact ⟨0, by omega, rfl, Lib.hid (by simp [firstM])⟩
  case round =>
    obtain ⟨k, hk, rfl, hf⟩ := hrel
    by_cases hlt : k < zs.length
    · obtain ⟨ad, rfl, _, hc⟩ := Hr.out k hlt
      have hts := take_snoc zs k hlt
      obtain ⟨x, hx⟩ : ∃ x, zs.getD k 0 = x := ⟨_, rfl⟩
      rw [hx] at hc hts
      by_cases hk0 : x = 0 ∨ x = 1
      · have hv : Hid (firstM zs = x) := Lib.hid (by
          have h1 : firstM (zs.take (k + 1)) = x := by rw [hts, firstM_snoc, hf.out, if_pos rfl, if_pos hk0]
          rw [split_at zs (k + 1), firstM_app _ _ (by rw [h1]; omega), h1])
        have hb : Hid (knownB x = true) := Lib.hid (by unfold knownB; simp only [decide_eq_true_eq]; exact hk0)
        clear hts hx hf hk0
        go_wp2_with fail
        refine (known_any x _).mono ?_
        rintro e w' ⟨rfl, rfl⟩
        rw [hb.out]
        go_wp2
        go_ret
        exact ⟨by rw [hv.out]; rfl, rfl⟩
      · have hv : Hid (firstM (zs.take (k + 1)) = 2) := Lib.hid (by rw [hts, firstM_snoc, hf.out, if_pos rfl, if_neg hk0])
        have hb : Hid (knownB x = false) := Lib.hid (by unfold knownB; simp only [decide_eq_false_iff_not]; exact hk0)
        clear hts hx hf hk0
        go_wp2_with fail
        refine (known_any x _).mono ?_
        rintro e w' ⟨rfl, rfl⟩
        rw [hb.out]
        go_wp2
        go_round
        case rel => exact ⟨k + 1, by omega, by go_num, hv⟩
        case measure => simp [intOf]; omega
    · have hv : Hid (firstM zs = 2) := Lib.hid (by rw [← hf.out, take_all zs k (by omega)])
      clear hf
      go_wp2
      go_ret
      exact ⟨by rw [hv.out]; rfl, rfl⟩
end Go.Proofs.YtdpnkncibimamaaDoor
