/-
  What a character may be: the functions of the document's own answer: each answers what the plain predicates say, and leaves the world as it is.
-/
import Derived.Test.YtkebjllehegjlaaGreatDoorUtCalls
namespace Go.Proofs.YtkebjllehegjlaaGreatDoor
open Go.RowKit
set_option maxRecDepth 100000 in
set_option maxHeartbeats 2000000 in
theorem refchar_any (r : Int) (w : World) :
    Calls Tryz.prog 10 #[.int .i64 r] w fun e w' => e = .returned (.bool (uChar r)) ∧ w = w' := by
  rcases (show (r < 9) ∨ (r = 9) ∨ (r = 10) ∨ (10 < r ∧ r < 13) ∨ (r = 13) ∨ (13 < r ∧ r < 32) ∨ (32 ≤ r ∧ r ≤ 55295) ∨ (55296 ≤ r ∧ r ≤ 57343) ∨ (57344 ≤ r ∧ r ≤ 65533) ∨ (65534 ≤ r ∧ r ≤ 65535) ∨ (65536 ≤ r ∧ r ≤ 1114111) ∨ (1114111 < r) from by omega) with g | rfl | rfl | ⟨g, g'⟩ | rfl | ⟨g, g'⟩ | ⟨g, g'⟩ | ⟨g, g'⟩ | ⟨g, g'⟩ | ⟨g, g'⟩ | ⟨g, g'⟩ | g
  · have hv : Hid (uChar r = false) := Lib.hid (by unfold uChar; simp only [decide_eq_false_iff_not]; omega)
    go_enter Tryz.func10, Tryz.ntmps10
    go_wp2
    go_ret
    exact ⟨by rw [hv.out]; first | rfl | exact congrArg (fun b => Ending.returned (Value.bool b)) (by simp; omega), rfl⟩
  · have hv : Hid (uChar 9 = true) := Lib.hid (by decide)
    go_enter Tryz.func10, Tryz.ntmps10
    go_wp2
    go_ret
    exact ⟨by rw [hv.out]; first | rfl | exact congrArg (fun b => Ending.returned (Value.bool b)) (by simp; omega), rfl⟩
  · have hv : Hid (uChar 10 = true) := Lib.hid (by decide)
    go_enter Tryz.func10, Tryz.ntmps10
    go_wp2
    go_ret
    exact ⟨by rw [hv.out]; first | rfl | exact congrArg (fun b => Ending.returned (Value.bool b)) (by simp; omega), rfl⟩
  · have hv : Hid (uChar r = false) := Lib.hid (by unfold uChar; simp only [decide_eq_false_iff_not]; omega)
    go_enter Tryz.func10, Tryz.ntmps10
    go_wp2
    go_ret
    exact ⟨by rw [hv.out]; first | rfl | exact congrArg (fun b => Ending.returned (Value.bool b)) (by simp; omega), rfl⟩
  · have hv : Hid (uChar 13 = true) := Lib.hid (by decide)
    go_enter Tryz.func10, Tryz.ntmps10
    go_wp2
    go_ret
    exact ⟨by rw [hv.out]; first | rfl | exact congrArg (fun b => Ending.returned (Value.bool b)) (by simp; omega), rfl⟩
  · have hv : Hid (uChar r = false) := Lib.hid (by unfold uChar; simp only [decide_eq_false_iff_not]; omega)
    go_enter Tryz.func10, Tryz.ntmps10
    go_wp2
    go_ret
    exact ⟨by rw [hv.out]; first | rfl | exact congrArg (fun b => Ending.returned (Value.bool b)) (by simp; omega), rfl⟩
  · have hv : Hid (uChar r = true) := Lib.hid (by unfold uChar; simp only [decide_eq_true_eq]; omega)
    go_enter Tryz.func10, Tryz.ntmps10
    go_wp2
    go_ret
    exact ⟨by rw [hv.out]; first | rfl | exact congrArg (fun b => Ending.returned (Value.bool b)) (by simp; omega), rfl⟩
  · have hv : Hid (uChar r = false) := Lib.hid (by unfold uChar; simp only [decide_eq_false_iff_not]; omega)
    go_enter Tryz.func10, Tryz.ntmps10
    go_wp2
    go_ret
    exact ⟨by rw [hv.out]; first | rfl | exact congrArg (fun b => Ending.returned (Value.bool b)) (by simp; omega), rfl⟩
  · have hv : Hid (uChar r = true) := Lib.hid (by unfold uChar; simp only [decide_eq_true_eq]; omega)
    go_enter Tryz.func10, Tryz.ntmps10
    go_wp2
    go_ret
    exact ⟨by rw [hv.out]; first | rfl | exact congrArg (fun b => Ending.returned (Value.bool b)) (by simp; omega), rfl⟩
  · have hv : Hid (uChar r = false) := Lib.hid (by unfold uChar; simp only [decide_eq_false_iff_not]; omega)
    go_enter Tryz.func10, Tryz.ntmps10
    go_wp2
    go_ret
    exact ⟨by rw [hv.out]; first | rfl | exact congrArg (fun b => Ending.returned (Value.bool b)) (by simp; omega), rfl⟩
  · have hv : Hid (uChar r = true) := Lib.hid (by unfold uChar; simp only [decide_eq_true_eq]; omega)
    go_enter Tryz.func10, Tryz.ntmps10
    go_wp2
    go_ret
    exact ⟨by rw [hv.out]; first | rfl | exact congrArg (fun b => Ending.returned (Value.bool b)) (by simp; omega), rfl⟩
  · have hv : Hid (uChar r = false) := Lib.hid (by unfold uChar; simp only [decide_eq_false_iff_not]; omega)
    go_enter Tryz.func10, Tryz.ntmps10
    go_wp2
    go_ret
    exact ⟨by rw [hv.out]; first | rfl | exact congrArg (fun b => Ending.returned (Value.bool b)) (by simp; omega), rfl⟩
end Go.Proofs.YtkebjllehegjlaaGreatDoor
