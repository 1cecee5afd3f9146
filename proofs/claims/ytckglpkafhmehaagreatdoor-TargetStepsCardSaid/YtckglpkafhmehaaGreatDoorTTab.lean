/-
  The tables of the powers of ten and of the trailing zeros, out of what a statement's row lists.
-/
import Derived.Test.YtckglpkafhmehaaGreatDoorNSmall
import Derived.Test.YtckglpkafhmehaaGreatDoorNGcdA
import Derived.Test.YtckglpkafhmehaaGreatDoorRows
import Derived.Lib.LaidTab
import Derived.Stop.LaidErr
import Derived.PinnedBridge
import Derived.MakeChecks
namespace Go.Proofs.YtckglpkafhmehaaGreatDoor
open Go
theorem tab_targetPlain {W : World} (h : laidMetH Tryz.prog Rows.targetPlainRow.laid W) : Tab W := by
  rw [MakeChecks.laidMetH_plain _ _ _ (by kernel_rfl)] at h
  obtain ⟨g, hg⟩ : ∃ g, Tryz.prog.globalNamed "internal/strconv.uint64pow10" = some g := by
    have : (Tryz.prog.globalNamed "internal/strconv.uint64pow10").isSome = true := by kernel_rfl
    exact Option.isSome_iff_exists.1 this
  have hty : ((Tryz.prog.globalNamed "internal/strconv.uint64pow10").bind fun g => (Tryz.prog.globals[g]?).map (·.type)) = some 136 := by kernel_rfl
  rw [hg] at hty
  exact Lib.tabIs_of_head (rest := _) hg hty Tryz.underlying136 Tryz.underlying60 (by kernel_rfl) (by kernel_rfl) h.tail.tail
theorem tabB_targetPlain {W : World} (h : laidMetH Tryz.prog Rows.targetPlainRow.laid W) : TabB W := by
  rw [MakeChecks.laidMetH_plain _ _ _ (by kernel_rfl)] at h
  obtain ⟨g, hg⟩ : ∃ g, Tryz.prog.globalNamed "math/bits.deBruijn64tab" = some g := by
    have : (Tryz.prog.globalNamed "math/bits.deBruijn64tab").isSome = true := by kernel_rfl
    exact Option.isSome_iff_exists.1 this
  have hty : ((Tryz.prog.globalNamed "math/bits.deBruijn64tab").bind fun g => (Tryz.prog.globals[g]?).map (·.type)) = some 120 := by kernel_rfl
  rw [hg] at hty
  exact Lib.tabIs_of_head (rest := _) hg hty Tryz.underlying120 Tryz.underlying5 (by kernel_rfl) (by kernel_rfl) h.tail
theorem tab_targetSteps {W : World} (h : laidMetH Tryz.prog Rows.targetStepsRow.laid W) : Tab W := by
  rw [MakeChecks.laidMetH_plain _ _ _ (by kernel_rfl)] at h
  obtain ⟨g, hg⟩ : ∃ g, Tryz.prog.globalNamed "internal/strconv.uint64pow10" = some g := by
    have : (Tryz.prog.globalNamed "internal/strconv.uint64pow10").isSome = true := by kernel_rfl
    exact Option.isSome_iff_exists.1 this
  have hty : ((Tryz.prog.globalNamed "internal/strconv.uint64pow10").bind fun g => (Tryz.prog.globals[g]?).map (·.type)) = some 136 := by kernel_rfl
  rw [hg] at hty
  exact Lib.tabIs_of_head (rest := _) hg hty Tryz.underlying136 Tryz.underlying60 (by kernel_rfl) (by kernel_rfl) h.tail.tail
theorem tabB_targetSteps {W : World} (h : laidMetH Tryz.prog Rows.targetStepsRow.laid W) : TabB W := by
  rw [MakeChecks.laidMetH_plain _ _ _ (by kernel_rfl)] at h
  obtain ⟨g, hg⟩ : ∃ g, Tryz.prog.globalNamed "math/bits.deBruijn64tab" = some g := by
    have : (Tryz.prog.globalNamed "math/bits.deBruijn64tab").isSome = true := by kernel_rfl
    exact Option.isSome_iff_exists.1 this
  have hty : ((Tryz.prog.globalNamed "math/bits.deBruijn64tab").bind fun g => (Tryz.prog.globals[g]?).map (·.type)) = some 120 := by kernel_rfl
  rw [hg] at hty
  exact Lib.tabIs_of_head (rest := _) hg hty Tryz.underlying120 Tryz.underlying5 (by kernel_rfl) (by kernel_rfl) h.tail
end Go.Proofs.YtckglpkafhmehaaGreatDoor
