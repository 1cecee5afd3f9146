/-
  What a name may hold, by the document's own answer.
-/
import Derived.Test.YticmgbbenjgpeaaRefClass
namespace Go.Proofs.Yticmgbbenjgpeaa
open Go.RowKit
set_option maxRecDepth 100000 in
set_option maxHeartbeats 4000000 in
theorem refstart_any (r : Int) (w : World) :
    Calls Try.prog 17 #[.int .i64 r] w fun e w' => e = .returned (.bool (uStart r)) ∧ w = w' := by
  rcases (show (r < 58) ∨ (r = 58) ∨ (58 < r ∧ r < 65) ∨ (65 ≤ r ∧ r ≤ 90) ∨ (90 < r ∧ r < 95) ∨ (r = 95) ∨ (95 < r ∧ r < 97) ∨ (97 ≤ r ∧ r ≤ 122) ∨ (122 < r ∧ r < 192) ∨ (192 ≤ r ∧ r < 215) ∨ (r = 215) ∨ (215 < r ∧ r < 247) ∨ (r = 247) ∨ (247 < r ∧ r < 894) ∨ (r = 894) ∨ (894 < r) from by omega) with g | rfl | ⟨g, g'⟩ | ⟨g, g'⟩ | ⟨g, g'⟩ | rfl | ⟨g, g'⟩ | ⟨g, g'⟩ | ⟨g, g'⟩ | ⟨g, g'⟩ | rfl | ⟨g, g'⟩ | rfl | ⟨g, g'⟩ | rfl | g
  · have hv : Hid (uStart r = false) := Lib.hid (by unfold uStart; simp only [decide_eq_false_iff_not]; omega)
    have d90 : decide (r ≤ 90) = true := by simp; omega
    have d122 : decide (r ≤ 122) = true := by simp; omega
    have t58 : (r == 58) = false := beq_eq_false_iff_ne.2 (by omega)
    have t95 : (r == 95) = false := beq_eq_false_iff_ne.2 (by omega)
    go_enter Try.func17, Try.ntmps17
    go_wp2
    go_ret
    exact ⟨by rw [hv.out]; rfl, rfl⟩
  · have hv : Hid (uStart 58 = true) := Lib.hid (by decide)
    go_enter Try.func17, Try.ntmps17
    go_wp2
    go_ret
    exact ⟨by rw [hv.out]; rfl, rfl⟩
  · have hv : Hid (uStart r = false) := Lib.hid (by unfold uStart; simp only [decide_eq_false_iff_not]; omega)
    have d90 : decide (r ≤ 90) = true := by simp; omega
    have d122 : decide (r ≤ 122) = true := by simp; omega
    have t58 : (r == 58) = false := beq_eq_false_iff_ne.2 (by omega)
    have t95 : (r == 95) = false := beq_eq_false_iff_ne.2 (by omega)
    go_enter Try.func17, Try.ntmps17
    go_wp2
    go_ret
    exact ⟨by rw [hv.out]; rfl, rfl⟩
  · have hv : Hid (uStart r = true) := Lib.hid (by unfold uStart; simp only [decide_eq_true_eq]; omega)
    have d90 : decide (r ≤ 90) = true := by simp; omega
    have d122 : decide (r ≤ 122) = true := by simp; omega
    have t58 : (r == 58) = false := beq_eq_false_iff_ne.2 (by omega)
    have t95 : (r == 95) = false := beq_eq_false_iff_ne.2 (by omega)
    go_enter Try.func17, Try.ntmps17
    go_wp2
    go_ret
    exact ⟨by rw [hv.out]; rfl, rfl⟩
  · have hv : Hid (uStart r = false) := Lib.hid (by unfold uStart; simp only [decide_eq_false_iff_not]; omega)
    have d90 : decide (r ≤ 90) = false := by simp; omega
    have d122 : decide (r ≤ 122) = true := by simp; omega
    have t58 : (r == 58) = false := beq_eq_false_iff_ne.2 (by omega)
    have t95 : (r == 95) = false := beq_eq_false_iff_ne.2 (by omega)
    go_enter Try.func17, Try.ntmps17
    go_wp2
    go_ret
    exact ⟨by rw [hv.out]; rfl, rfl⟩
  · have hv : Hid (uStart 95 = true) := Lib.hid (by decide)
    go_enter Try.func17, Try.ntmps17
    go_wp2
    go_ret
    exact ⟨by rw [hv.out]; rfl, rfl⟩
  · have hv : Hid (uStart r = false) := Lib.hid (by unfold uStart; simp only [decide_eq_false_iff_not]; omega)
    have d90 : decide (r ≤ 90) = false := by simp; omega
    have d122 : decide (r ≤ 122) = true := by simp; omega
    have t58 : (r == 58) = false := beq_eq_false_iff_ne.2 (by omega)
    have t95 : (r == 95) = false := beq_eq_false_iff_ne.2 (by omega)
    go_enter Try.func17, Try.ntmps17
    go_wp2
    go_ret
    exact ⟨by rw [hv.out]; rfl, rfl⟩
  · have hv : Hid (uStart r = true) := Lib.hid (by unfold uStart; simp only [decide_eq_true_eq]; omega)
    have d90 : decide (r ≤ 90) = false := by simp; omega
    have d122 : decide (r ≤ 122) = true := by simp; omega
    have t58 : (r == 58) = false := beq_eq_false_iff_ne.2 (by omega)
    have t95 : (r == 95) = false := beq_eq_false_iff_ne.2 (by omega)
    go_enter Try.func17, Try.ntmps17
    go_wp2
    go_ret
    exact ⟨by rw [hv.out]; rfl, rfl⟩
  · have hv : Hid (uStart r = false) := Lib.hid (by unfold uStart; simp only [decide_eq_false_iff_not]; omega)
    have d90 : decide (r ≤ 90) = false := by simp; omega
    have d122 : decide (r ≤ 122) = false := by simp; omega
    have t58 : (r == 58) = false := beq_eq_false_iff_ne.2 (by omega)
    have t95 : (r == 95) = false := beq_eq_false_iff_ne.2 (by omega)
    go_enter Try.func17, Try.ntmps17
    go_wp2
    go_ret
    exact ⟨by rw [hv.out]; rfl, rfl⟩
  · have hv : Hid (uStart r = uChar r) := Lib.hid (by unfold uStart; cases h : uChar r <;> simp <;> omega)
    have d90 : decide (r ≤ 90) = false := by simp; omega
    have d122 : decide (r ≤ 122) = false := by simp; omega
    have t58 : (r == 58) = false := beq_eq_false_iff_ne.2 (by omega)
    have t95 : (r == 95) = false := beq_eq_false_iff_ne.2 (by omega)
    have t215 : (r != 215) = true := by simp; omega
    have t247 : (r != 247) = true := by simp; omega
    have t894 : (r != 894) = true := by simp; omega
    go_enter Try.func17, Try.ntmps17
    go_wp2_with fail
    refine (refchar_any r _).mono ?_
    rintro e w' ⟨rfl, rfl⟩
    go_wp2
    go_ret
    exact ⟨by rw [hv.out]; rfl, rfl⟩
  · have hv : Hid (uStart 215 = false) := Lib.hid (by decide)
    go_enter Try.func17, Try.ntmps17
    go_wp2
    go_ret
    exact ⟨by rw [hv.out]; rfl, rfl⟩
  · have hv : Hid (uStart r = uChar r) := Lib.hid (by unfold uStart; cases h : uChar r <;> simp <;> omega)
    have d90 : decide (r ≤ 90) = false := by simp; omega
    have d122 : decide (r ≤ 122) = false := by simp; omega
    have t58 : (r == 58) = false := beq_eq_false_iff_ne.2 (by omega)
    have t95 : (r == 95) = false := beq_eq_false_iff_ne.2 (by omega)
    have t215 : (r != 215) = true := by simp; omega
    have t247 : (r != 247) = true := by simp; omega
    have t894 : (r != 894) = true := by simp; omega
    go_enter Try.func17, Try.ntmps17
    go_wp2_with fail
    refine (refchar_any r _).mono ?_
    rintro e w' ⟨rfl, rfl⟩
    go_wp2
    go_ret
    exact ⟨by rw [hv.out]; rfl, rfl⟩
  · have hv : Hid (uStart 247 = false) := Lib.hid (by decide)
    go_enter Try.func17, Try.ntmps17
    go_wp2
    go_ret
    exact ⟨by rw [hv.out]; rfl, rfl⟩
  · have hv : Hid (uStart r = uChar r) := Lib.hid (by unfold uStart; cases h : uChar r <;> simp <;> omega)
    have d90 : decide (r ≤ 90) = false := by simp; omega
    have d122 : decide (r ≤ 122) = false := by simp; omega
    have t58 : (r == 58) = false := beq_eq_false_iff_ne.2 (by omega)
    have t95 : (r == 95) = false := beq_eq_false_iff_ne.2 (by omega)
    have t215 : (r != 215) = true := by simp; omega
    have t247 : (r != 247) = true := by simp; omega
    have t894 : (r != 894) = true := by simp; omega
    go_enter Try.func17, Try.ntmps17
    go_wp2_with fail
    refine (refchar_any r _).mono ?_
    rintro e w' ⟨rfl, rfl⟩
    go_wp2
    go_ret
    exact ⟨by rw [hv.out]; rfl, rfl⟩
  · have hv : Hid (uStart 894 = false) := Lib.hid (by decide)
    go_enter Try.func17, Try.ntmps17
    go_wp2
    go_ret
    exact ⟨by rw [hv.out]; rfl, rfl⟩
  · have hv : Hid (uStart r = uChar r) := Lib.hid (by unfold uStart; cases h : uChar r <;> simp <;> omega)
    have d90 : decide (r ≤ 90) = false := by simp; omega
    have d122 : decide (r ≤ 122) = false := by simp; omega
    have t58 : (r == 58) = false := beq_eq_false_iff_ne.2 (by omega)
    have t95 : (r == 95) = false := beq_eq_false_iff_ne.2 (by omega)
    have t215 : (r != 215) = true := by simp; omega
    have t247 : (r != 247) = true := by simp; omega
    have t894 : (r != 894) = true := by simp; omega
    go_enter Try.func17, Try.ntmps17
    go_wp2_with fail
    refine (refchar_any r _).mono ?_
    rintro e w' ⟨rfl, rfl⟩
    go_wp2
    go_ret
    exact ⟨by rw [hv.out]; rfl, rfl⟩
set_option maxRecDepth 100000 in
set_option maxHeartbeats 4000000 in
theorem refpart_any (r : Int) (w : World) :
    Calls Try.prog 19 #[.int .i64 r] w fun e w' => e = .returned (.bool (uPart r)) ∧ w = w' := by
  cases hs : uStart r with
  | true =>
    have hv : Hid (uPart r = true) := Lib.hid (uStart_part r hs)
    have Hs := Lib.hid hs
    clear hs
    go_enter Try.func19, Try.ntmps19
    go_wp2_with fail
    refine (refstart_any r _).mono ?_
    rintro e w' ⟨rfl, rfl⟩
    rw [Hs.out]
    go_wp2
    go_ret
    exact ⟨by rw [hv.out]; rfl, rfl⟩
  | false =>
    have Hs := Lib.hid hs
    have HP : Hid (uPart r = decide ((48 ≤ r ∧ r ≤ 57) ∨ r = 45 ∨ r = 46 ∨ r = 183)) := Lib.hid (by unfold uPart; rw [hs]; simp)
    clear hs
    rcases (show (r < 45) ∨ (r = 45) ∨ (r = 46) ∨ (46 < r ∧ r < 48) ∨ (48 ≤ r ∧ r ≤ 57) ∨ (57 < r ∧ r < 183) ∨ (r = 183) ∨ (183 < r) from by omega) with g | rfl | rfl | ⟨g, g'⟩ | ⟨g, g'⟩ | ⟨g, g'⟩ | rfl | g
    · have hv : Hid (uPart r = false) := Lib.hid (by rw [HP.out]; simp <;> omega)
      have d57 : decide (r ≤ 57) = true := by simp; omega
      have t45 : (r == 45) = false := beq_eq_false_iff_ne.2 (by omega)
      have t46 : (r == 46) = false := beq_eq_false_iff_ne.2 (by omega)
      have t183 : (r == 183) = false := beq_eq_false_iff_ne.2 (by omega)
      clear HP
      go_enter Try.func19, Try.ntmps19
      go_wp2_with fail
      refine (refstart_any r _).mono ?_
      rintro e w' ⟨rfl, rfl⟩
      rw [Hs.out]
      go_wp2
      go_ret
      exact ⟨by rw [hv.out]; rfl, rfl⟩
    · have hv : Hid (uPart 45 = true) := Lib.hid (by decide)
      clear HP
      go_enter Try.func19, Try.ntmps19
      go_wp2_with fail
      refine (refstart_any 45 _).mono ?_
      rintro e w' ⟨rfl, rfl⟩
      rw [Hs.out]
      go_wp2
      go_ret
      exact ⟨by rw [hv.out]; rfl, rfl⟩
    · have hv : Hid (uPart 46 = true) := Lib.hid (by decide)
      clear HP
      go_enter Try.func19, Try.ntmps19
      go_wp2_with fail
      refine (refstart_any 46 _).mono ?_
      rintro e w' ⟨rfl, rfl⟩
      rw [Hs.out]
      go_wp2
      go_ret
      exact ⟨by rw [hv.out]; rfl, rfl⟩
    · have hv : Hid (uPart r = false) := Lib.hid (by rw [HP.out]; simp <;> omega)
      have d57 : decide (r ≤ 57) = true := by simp; omega
      have t45 : (r == 45) = false := beq_eq_false_iff_ne.2 (by omega)
      have t46 : (r == 46) = false := beq_eq_false_iff_ne.2 (by omega)
      have t183 : (r == 183) = false := beq_eq_false_iff_ne.2 (by omega)
      clear HP
      go_enter Try.func19, Try.ntmps19
      go_wp2_with fail
      refine (refstart_any r _).mono ?_
      rintro e w' ⟨rfl, rfl⟩
      rw [Hs.out]
      go_wp2
      go_ret
      exact ⟨by rw [hv.out]; rfl, rfl⟩
    · have hv : Hid (uPart r = true) := Lib.hid (by rw [HP.out]; simp <;> omega)
      have d57 : decide (r ≤ 57) = true := by simp; omega
      have t45 : (r == 45) = false := beq_eq_false_iff_ne.2 (by omega)
      have t46 : (r == 46) = false := beq_eq_false_iff_ne.2 (by omega)
      have t183 : (r == 183) = false := beq_eq_false_iff_ne.2 (by omega)
      clear HP
      go_enter Try.func19, Try.ntmps19
      go_wp2_with fail
      refine (refstart_any r _).mono ?_
      rintro e w' ⟨rfl, rfl⟩
      rw [Hs.out]
      go_wp2
      go_ret
      exact ⟨by rw [hv.out]; rfl, rfl⟩
    · have hv : Hid (uPart r = false) := Lib.hid (by rw [HP.out]; simp <;> omega)
      have d57 : decide (r ≤ 57) = false := by simp; omega
      have t45 : (r == 45) = false := beq_eq_false_iff_ne.2 (by omega)
      have t46 : (r == 46) = false := beq_eq_false_iff_ne.2 (by omega)
      have t183 : (r == 183) = false := beq_eq_false_iff_ne.2 (by omega)
      clear HP
      go_enter Try.func19, Try.ntmps19
      go_wp2_with fail
      refine (refstart_any r _).mono ?_
      rintro e w' ⟨rfl, rfl⟩
      rw [Hs.out]
      go_wp2
      go_ret
      exact ⟨by rw [hv.out]; rfl, rfl⟩
    · have hv : Hid (uPart 183 = true) := Lib.hid (by decide)
      clear HP
      go_enter Try.func19, Try.ntmps19
      go_wp2_with fail
      refine (refstart_any 183 _).mono ?_
      rintro e w' ⟨rfl, rfl⟩
      rw [Hs.out]
      go_wp2
      go_ret
      exact ⟨by rw [hv.out]; rfl, rfl⟩
    · have hv : Hid (uPart r = false) := Lib.hid (by rw [HP.out]; simp <;> omega)
      have d57 : decide (r ≤ 57) = false := by simp; omega
      have t45 : (r == 45) = false := beq_eq_false_iff_ne.2 (by omega)
      have t46 : (r == 46) = false := beq_eq_false_iff_ne.2 (by omega)
      have t183 : (r == 183) = false := beq_eq_false_iff_ne.2 (by omega)
      clear HP
      go_enter Try.func19, Try.ntmps19
      go_wp2_with fail
      refine (refstart_any r _).mono ?_
      rintro e w' ⟨rfl, rfl⟩
      rw [Hs.out]
      go_wp2
      go_ret
      exact ⟨by rw [hv.out]; rfl, rfl⟩
end Go.Proofs.Yticmgbbenjgpeaa
