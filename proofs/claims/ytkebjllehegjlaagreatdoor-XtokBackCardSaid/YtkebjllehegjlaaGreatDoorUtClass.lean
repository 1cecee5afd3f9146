/-
  What a character may be: the functions of package utf: each answers what the plain predicates say, and leaves the world as it is.
-/
import Derived.Test.YtkebjllehegjlaaGreatDoorUtCalls
namespace Go.Proofs.YtkebjllehegjlaaGreatDoor
open Go.RowKit
set_option maxRecDepth 100000 in
set_option maxHeartbeats 2000000 in
theorem char_any (r : Int) (w : World) :
    Calls Tryz.prog 19 #[.int .i64 r] w fun e w' => e = .returned (.bool (uChar r)) ∧ w = w' := by
  rcases (show (r < 9) ∨ (r = 9) ∨ (r = 10) ∨ (10 < r ∧ r < 13) ∨ (r = 13) ∨ (13 < r ∧ r < 32) ∨ (32 ≤ r ∧ r ≤ 55295) ∨ (55296 ≤ r ∧ r ≤ 57343) ∨ (57344 ≤ r ∧ r ≤ 65533) ∨ (65534 ≤ r ∧ r ≤ 65535) ∨ (65536 ≤ r ∧ r ≤ 1114111) ∨ (1114111 < r) from by omega) with g | rfl | rfl | ⟨g, g'⟩ | rfl | ⟨g, g'⟩ | ⟨g, g'⟩ | ⟨g, g'⟩ | ⟨g, g'⟩ | ⟨g, g'⟩ | ⟨g, g'⟩ | g
  · have hv : Hid (uChar r = false) := Lib.hid (by unfold uChar; simp only [decide_eq_false_iff_not]; omega)
    go_enter Tryz.func19, Tryz.ntmps19
    go_wp2
    go_ret
    exact ⟨by rw [hv.out]; rfl, rfl⟩
  · have hv : Hid (uChar 9 = true) := Lib.hid (by decide)
    go_enter Tryz.func19, Tryz.ntmps19
    go_wp2
    go_ret
    exact ⟨by rw [hv.out]; rfl, rfl⟩
  · have hv : Hid (uChar 10 = true) := Lib.hid (by decide)
    go_enter Tryz.func19, Tryz.ntmps19
    go_wp2
    go_ret
    exact ⟨by rw [hv.out]; rfl, rfl⟩
  · have hv : Hid (uChar r = false) := Lib.hid (by unfold uChar; simp only [decide_eq_false_iff_not]; omega)
    go_enter Tryz.func19, Tryz.ntmps19
    go_wp2
    go_ret
    exact ⟨by rw [hv.out]; rfl, rfl⟩
  · have hv : Hid (uChar 13 = true) := Lib.hid (by decide)
    go_enter Tryz.func19, Tryz.ntmps19
    go_wp2
    go_ret
    exact ⟨by rw [hv.out]; rfl, rfl⟩
  · have hv : Hid (uChar r = false) := Lib.hid (by unfold uChar; simp only [decide_eq_false_iff_not]; omega)
    go_enter Tryz.func19, Tryz.ntmps19
    go_wp2
    go_ret
    exact ⟨by rw [hv.out]; rfl, rfl⟩
  · have hv : Hid (uChar r = true) := Lib.hid (by unfold uChar; simp only [decide_eq_true_eq]; omega)
    go_enter Tryz.func19, Tryz.ntmps19
    go_wp2
    go_ret
    exact ⟨by rw [hv.out]; rfl, rfl⟩
  · have hv : Hid (uChar r = false) := Lib.hid (by unfold uChar; simp only [decide_eq_false_iff_not]; omega)
    go_enter Tryz.func19, Tryz.ntmps19
    go_wp2
    go_ret
    exact ⟨by rw [hv.out]; rfl, rfl⟩
  · have hv : Hid (uChar r = true) := Lib.hid (by unfold uChar; simp only [decide_eq_true_eq]; omega)
    go_enter Tryz.func19, Tryz.ntmps19
    go_wp2
    go_ret
    exact ⟨by rw [hv.out]; rfl, rfl⟩
  · have hv : Hid (uChar r = false) := Lib.hid (by unfold uChar; simp only [decide_eq_false_iff_not]; omega)
    go_enter Tryz.func19, Tryz.ntmps19
    go_wp2
    go_ret
    exact ⟨by rw [hv.out]; rfl, rfl⟩
  · have hv : Hid (uChar r = true) := Lib.hid (by unfold uChar; simp only [decide_eq_true_eq]; omega)
    go_enter Tryz.func19, Tryz.ntmps19
    go_wp2
    go_ret
    exact ⟨by rw [hv.out]; rfl, rfl⟩
  · have hv : Hid (uChar r = false) := Lib.hid (by unfold uChar; simp only [decide_eq_false_iff_not]; omega)
    go_enter Tryz.func19, Tryz.ntmps19
    go_wp2
    go_ret
    exact ⟨by rw [hv.out]; rfl, rfl⟩
set_option maxRecDepth 100000 in
set_option maxHeartbeats 2000000 in
theorem space_any (r : Int) (w : World) :
    Calls Tryz.prog 50 #[.int .i64 r] w fun e w' => e = .returned (.bool (uSpace r)) ∧ w = w' := by
  rcases (show (r < 9) ∨ (r = 9) ∨ (r = 10) ∨ (10 < r ∧ r < 13) ∨ (r = 13) ∨ (13 < r ∧ r < 32) ∨ (r = 32) ∨ (32 < r) from by omega) with g | rfl | rfl | ⟨g, g'⟩ | rfl | ⟨g, g'⟩ | rfl | g
  · have hv : Hid (uSpace r = false) := Lib.hid (by unfold uSpace; simp only [decide_eq_false_iff_not]; omega)
    have t9 : (r == 9) = false := beq_eq_false_iff_ne.2 (by omega)
    have t10 : (r == 10) = false := beq_eq_false_iff_ne.2 (by omega)
    have t13 : (r == 13) = false := beq_eq_false_iff_ne.2 (by omega)
    have t32 : (r == 32) = false := beq_eq_false_iff_ne.2 (by omega)
    go_enter Tryz.func50, Tryz.ntmps50
    go_wp2
    go_ret
    exact ⟨by rw [hv.out]; rfl, rfl⟩
  · have hv : Hid (uSpace 9 = true) := Lib.hid (by decide)
    go_enter Tryz.func50, Tryz.ntmps50
    go_wp2
    go_ret
    exact ⟨by rw [hv.out]; rfl, rfl⟩
  · have hv : Hid (uSpace 10 = true) := Lib.hid (by decide)
    go_enter Tryz.func50, Tryz.ntmps50
    go_wp2
    go_ret
    exact ⟨by rw [hv.out]; rfl, rfl⟩
  · have hv : Hid (uSpace r = false) := Lib.hid (by unfold uSpace; simp only [decide_eq_false_iff_not]; omega)
    have t9 : (r == 9) = false := beq_eq_false_iff_ne.2 (by omega)
    have t10 : (r == 10) = false := beq_eq_false_iff_ne.2 (by omega)
    have t13 : (r == 13) = false := beq_eq_false_iff_ne.2 (by omega)
    have t32 : (r == 32) = false := beq_eq_false_iff_ne.2 (by omega)
    go_enter Tryz.func50, Tryz.ntmps50
    go_wp2
    go_ret
    exact ⟨by rw [hv.out]; rfl, rfl⟩
  · have hv : Hid (uSpace 13 = true) := Lib.hid (by decide)
    go_enter Tryz.func50, Tryz.ntmps50
    go_wp2
    go_ret
    exact ⟨by rw [hv.out]; rfl, rfl⟩
  · have hv : Hid (uSpace r = false) := Lib.hid (by unfold uSpace; simp only [decide_eq_false_iff_not]; omega)
    have t9 : (r == 9) = false := beq_eq_false_iff_ne.2 (by omega)
    have t10 : (r == 10) = false := beq_eq_false_iff_ne.2 (by omega)
    have t13 : (r == 13) = false := beq_eq_false_iff_ne.2 (by omega)
    have t32 : (r == 32) = false := beq_eq_false_iff_ne.2 (by omega)
    go_enter Tryz.func50, Tryz.ntmps50
    go_wp2
    go_ret
    exact ⟨by rw [hv.out]; rfl, rfl⟩
  · have hv : Hid (uSpace 32 = true) := Lib.hid (by decide)
    go_enter Tryz.func50, Tryz.ntmps50
    go_wp2
    go_ret
    exact ⟨by rw [hv.out]; rfl, rfl⟩
  · have hv : Hid (uSpace r = false) := Lib.hid (by unfold uSpace; simp only [decide_eq_false_iff_not]; omega)
    have t9 : (r == 9) = false := beq_eq_false_iff_ne.2 (by omega)
    have t10 : (r == 10) = false := beq_eq_false_iff_ne.2 (by omega)
    have t13 : (r == 13) = false := beq_eq_false_iff_ne.2 (by omega)
    have t32 : (r == 32) = false := beq_eq_false_iff_ne.2 (by omega)
    go_enter Tryz.func50, Tryz.ntmps50
    go_wp2
    go_ret
    exact ⟨by rw [hv.out]; rfl, rfl⟩
set_option maxRecDepth 100000 in
set_option maxHeartbeats 2000000 in
theorem start_any (r : Int) (w : World) :
    Calls Tryz.prog 59 #[.int .i64 r] w fun e w' => e = .returned (.bool (uStart r)) ∧ w = w' := by
  rcases (show (r < 58) ∨ (r = 58) ∨ (58 < r ∧ r < 65) ∨ (65 ≤ r ∧ r ≤ 90) ∨ (90 < r ∧ r < 95) ∨ (r = 95) ∨ (95 < r ∧ r < 97) ∨ (97 ≤ r ∧ r ≤ 122) ∨ (122 < r ∧ r < 192) ∨ (192 ≤ r ∧ r < 215) ∨ (r = 215) ∨ (215 < r ∧ r < 247) ∨ (r = 247) ∨ (247 < r ∧ r < 894) ∨ (r = 894) ∨ (894 < r) from by omega) with g | rfl | ⟨g, g'⟩ | ⟨g, g'⟩ | ⟨g, g'⟩ | rfl | ⟨g, g'⟩ | ⟨g, g'⟩ | ⟨g, g'⟩ | ⟨g, g'⟩ | rfl | ⟨g, g'⟩ | rfl | ⟨g, g'⟩ | rfl | g
  · have hv : Hid (uStart r = false) := Lib.hid (by unfold uStart; simp only [decide_eq_false_iff_not]; omega)
    go_enter Tryz.func59, Tryz.ntmps59
    go_wp2
    go_ret
    exact ⟨by rw [hv.out]; rfl, rfl⟩
  · have hv : Hid (uStart 58 = true) := Lib.hid (by decide)
    go_enter Tryz.func59, Tryz.ntmps59
    go_wp2
    go_ret
    exact ⟨by rw [hv.out]; rfl, rfl⟩
  · have hv : Hid (uStart r = false) := Lib.hid (by unfold uStart; simp only [decide_eq_false_iff_not]; omega)
    go_enter Tryz.func59, Tryz.ntmps59
    go_wp2
    go_ret
    exact ⟨by rw [hv.out]; rfl, rfl⟩
  · have hv : Hid (uStart r = true) := Lib.hid (by unfold uStart; simp only [decide_eq_true_eq]; omega)
    go_enter Tryz.func59, Tryz.ntmps59
    go_wp2
    go_ret
    exact ⟨by rw [hv.out]; rfl, rfl⟩
  · have hv : Hid (uStart r = false) := Lib.hid (by unfold uStart; simp only [decide_eq_false_iff_not]; omega)
    go_enter Tryz.func59, Tryz.ntmps59
    go_wp2
    go_ret
    exact ⟨by rw [hv.out]; rfl, rfl⟩
  · have hv : Hid (uStart 95 = true) := Lib.hid (by decide)
    go_enter Tryz.func59, Tryz.ntmps59
    go_wp2
    go_ret
    exact ⟨by rw [hv.out]; rfl, rfl⟩
  · have hv : Hid (uStart r = false) := Lib.hid (by unfold uStart; simp only [decide_eq_false_iff_not]; omega)
    go_enter Tryz.func59, Tryz.ntmps59
    go_wp2
    go_ret
    exact ⟨by rw [hv.out]; rfl, rfl⟩
  · have hv : Hid (uStart r = true) := Lib.hid (by unfold uStart; simp only [decide_eq_true_eq]; omega)
    go_enter Tryz.func59, Tryz.ntmps59
    go_wp2
    go_ret
    exact ⟨by rw [hv.out]; rfl, rfl⟩
  · have hv : Hid (uStart r = false) := Lib.hid (by unfold uStart; simp only [decide_eq_false_iff_not]; omega)
    go_enter Tryz.func59, Tryz.ntmps59
    go_wp2
    go_ret
    exact ⟨by rw [hv.out]; rfl, rfl⟩
  · have hv : Hid (uStart r = uChar r) := Lib.hid (by unfold uStart; cases h : uChar r <;> simp <;> omega)
    go_enter Tryz.func59, Tryz.ntmps59
    go_wp2_with fail
    refine (char_any r _).mono ?_
    rintro e w' ⟨rfl, rfl⟩
    go_wp2
    go_ret
    exact ⟨by rw [hv.out]; rfl, rfl⟩
  · have hv : Hid (uStart 215 = false) := Lib.hid (by decide)
    go_enter Tryz.func59, Tryz.ntmps59
    go_wp2
    go_ret
    exact ⟨by rw [hv.out]; rfl, rfl⟩
  · have hv : Hid (uStart r = uChar r) := Lib.hid (by unfold uStart; cases h : uChar r <;> simp <;> omega)
    go_enter Tryz.func59, Tryz.ntmps59
    go_wp2_with fail
    refine (char_any r _).mono ?_
    rintro e w' ⟨rfl, rfl⟩
    go_wp2
    go_ret
    exact ⟨by rw [hv.out]; rfl, rfl⟩
  · have hv : Hid (uStart 247 = false) := Lib.hid (by decide)
    go_enter Tryz.func59, Tryz.ntmps59
    go_wp2
    go_ret
    exact ⟨by rw [hv.out]; rfl, rfl⟩
  · have hv : Hid (uStart r = uChar r) := Lib.hid (by unfold uStart; cases h : uChar r <;> simp <;> omega)
    go_enter Tryz.func59, Tryz.ntmps59
    go_wp2_with fail
    refine (char_any r _).mono ?_
    rintro e w' ⟨rfl, rfl⟩
    go_wp2
    go_ret
    exact ⟨by rw [hv.out]; rfl, rfl⟩
  · have hv : Hid (uStart 894 = false) := Lib.hid (by decide)
    go_enter Tryz.func59, Tryz.ntmps59
    go_wp2
    go_ret
    exact ⟨by rw [hv.out]; rfl, rfl⟩
  · have hv : Hid (uStart r = uChar r) := Lib.hid (by unfold uStart; cases h : uChar r <;> simp <;> omega)
    go_enter Tryz.func59, Tryz.ntmps59
    go_wp2_with fail
    refine (char_any r _).mono ?_
    rintro e w' ⟨rfl, rfl⟩
    go_wp2
    go_ret
    exact ⟨by rw [hv.out]; rfl, rfl⟩
set_option maxRecDepth 100000 in
set_option maxHeartbeats 2000000 in
theorem part_any (r : Int) (w : World) :
    Calls Tryz.prog 60 #[.int .i64 r] w fun e w' => e = .returned (.bool (uPart r)) ∧ w = w' := by
  rcases (show (r < 45) ∨ (r = 45) ∨ (r = 46) ∨ (46 < r ∧ r < 48) ∨ (48 ≤ r ∧ r ≤ 57) ∨ (57 < r ∧ r < 183) ∨ (r = 183) ∨ (183 < r) from by omega) with g | rfl | rfl | ⟨g, g'⟩ | ⟨g, g'⟩ | ⟨g, g'⟩ | rfl | g
  · have hv : Hid (uPart r = uStart r) := Lib.hid (by unfold uPart; cases h : uStart r <;> simp <;> omega)
    go_enter Tryz.func60, Tryz.ntmps60
    go_wp2_with fail
    refine (start_any r _).mono ?_
    rintro e w' ⟨rfl, rfl⟩
    go_wp2
    go_ret
    exact ⟨by rw [hv.out]; rfl, rfl⟩
  · have hv : Hid (uPart 45 = true) := Lib.hid (by decide)
    go_enter Tryz.func60, Tryz.ntmps60
    go_wp2
    go_ret
    exact ⟨by rw [hv.out]; rfl, rfl⟩
  · have hv : Hid (uPart 46 = true) := Lib.hid (by decide)
    go_enter Tryz.func60, Tryz.ntmps60
    go_wp2
    go_ret
    exact ⟨by rw [hv.out]; rfl, rfl⟩
  · have hv : Hid (uPart r = uStart r) := Lib.hid (by unfold uPart; cases h : uStart r <;> simp <;> omega)
    go_enter Tryz.func60, Tryz.ntmps60
    go_wp2_with fail
    refine (start_any r _).mono ?_
    rintro e w' ⟨rfl, rfl⟩
    go_wp2
    go_ret
    exact ⟨by rw [hv.out]; rfl, rfl⟩
  · have hv : Hid (uPart r = true) := Lib.hid (by unfold uPart; simp only [decide_eq_true_eq]; omega)
    go_enter Tryz.func60, Tryz.ntmps60
    go_wp2
    go_ret
    exact ⟨by rw [hv.out]; rfl, rfl⟩
  · have hv : Hid (uPart r = uStart r) := Lib.hid (by unfold uPart; cases h : uStart r <;> simp <;> omega)
    go_enter Tryz.func60, Tryz.ntmps60
    go_wp2_with fail
    refine (start_any r _).mono ?_
    rintro e w' ⟨rfl, rfl⟩
    go_wp2
    go_ret
    exact ⟨by rw [hv.out]; rfl, rfl⟩
  · have hv : Hid (uPart 183 = true) := Lib.hid (by decide)
    go_enter Tryz.func60, Tryz.ntmps60
    go_wp2
    go_ret
    exact ⟨by rw [hv.out]; rfl, rfl⟩
  · have hv : Hid (uPart r = uStart r) := Lib.hid (by unfold uPart; cases h : uStart r <;> simp <;> omega)
    go_enter Tryz.func60, Tryz.ntmps60
    go_wp2_with fail
    refine (start_any r _).mono ?_
    rintro e w' ⟨rfl, rfl⟩
    go_wp2
    go_ret
    exact ⟨by rw [hv.out]; rfl, rfl⟩
end Go.Proofs.YtkebjllehegjlaaGreatDoor
