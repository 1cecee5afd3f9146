/-
 The tables of the powers of ten and of the trailing zeros, out of what a statement's row lists.
-/
import Derived.Test.YtnhobagjpjcigaaDoorNSmall
import Derived.Test.YtnhobagjpjcigaaDoorNGcdA
import Derived.Test.YtnhobagjpjcigaaDoorRows
import Derived.Lib.LaidTab
import Derived.Stop.LaidErr
import Derived.PinnedBridge
import Derived.MakeChecks
namespace Go.Proofs.YtnhobagjpjcigaaDoor
open Go
theorem tab_ieeeDecodes {W : World} (h : laidMetH Tryd.prog Rows.ieeeDecodesRow.laid W) : Tab W := by
 rw [MakeChecks.laidMetH_plain _ _ _ (by kernel_rfl)] at h
 obtain ⟨g, hg⟩ : ∃ g, Tryd.prog.globalNamed "internal/strconv.uint64pow10" = some g := by
  have : (Tryd.prog.globalNamed "internal/strconv.uint64pow10").isSome = true := by kernel_rfl
  exact Option.isSome_iff_exists.1 this
 have hty : ((Tryd.prog.globalNamed "internal/strconv.uint64pow10").bind fun g => (Tryd.prog.globals[g]?).map (·.type)) = some 128 := by kernel_rfl
 rw [hg] at hty
 exact Lib.tabIs_of_head (rest := _) hg hty Tryd.underlying128 Tryd.underlying22 (by kernel_rfl) (by kernel_rfl) h.tail.tail
theorem tabB_ieeeDecodes {W : World} (h : laidMetH Tryd.prog Rows.ieeeDecodesRow.laid W) : TabB W := by
 rw [MakeChecks.laidMetH_plain _ _ _ (by kernel_rfl)] at h
 obtain ⟨g, hg⟩ : ∃ g, Tryd.prog.globalNamed "math/bits.deBruijn64tab" = some g := by
  have : (Tryd.prog.globalNamed "math/bits.deBruijn64tab").isSome = true := by kernel_rfl
  exact Option.isSome_iff_exists.1 this
 have hty : ((Tryd.prog.globalNamed "math/bits.deBruijn64tab").bind fun g => (Tryd.prog.globals[g]?).map (·.type)) = some 126 := by kernel_rfl
 rw [hg] at hty
 exact Lib.tabIs_of_head (rest := _) hg hty Tryd.underlying126 Tryd.underlying5 (by kernel_rfl) (by kernel_rfl) h.tail
theorem tab_ieeeBack {W : World} (h : laidMetH Tryd.prog Rows.ieeeBackRow.laid W) : Tab W := by
 rw [MakeChecks.laidMetH_plain _ _ _ (by kernel_rfl)] at h
 obtain ⟨g, hg⟩ : ∃ g, Tryd.prog.globalNamed "internal/strconv.uint64pow10" = some g := by
  have : (Tryd.prog.globalNamed "internal/strconv.uint64pow10").isSome = true := by kernel_rfl
  exact Option.isSome_iff_exists.1 this
 have hty : ((Tryd.prog.globalNamed "internal/strconv.uint64pow10").bind fun g => (Tryd.prog.globals[g]?).map (·.type)) = some 128 := by kernel_rfl
 rw [hg] at hty
 exact Lib.tabIs_of_head (rest := _) hg hty Tryd.underlying128 Tryd.underlying22 (by kernel_rfl) (by kernel_rfl) h.tail.tail
theorem tabB_ieeeBack {W : World} (h : laidMetH Tryd.prog Rows.ieeeBackRow.laid W) : TabB W := by
 rw [MakeChecks.laidMetH_plain _ _ _ (by kernel_rfl)] at h
 obtain ⟨g, hg⟩ : ∃ g, Tryd.prog.globalNamed "math/bits.deBruijn64tab" = some g := by
  have : (Tryd.prog.globalNamed "math/bits.deBruijn64tab").isSome = true := by kernel_rfl
  exact Option.isSome_iff_exists.1 this
 have hty : ((Tryd.prog.globalNamed "math/bits.deBruijn64tab").bind fun g => (Tryd.prog.globals[g]?).map (·.type)) = some 126 := by kernel_rfl
 rw [hg] at hty
 exact Lib.tabIs_of_head (rest := _) hg hty Tryd.underlying126 Tryd.underlying5 (by kernel_rfl) (by kernel_rfl) h.tail
theorem tab_ieeeOrder {W : World} (h : laidMetH Tryd.prog Rows.ieeeOrderRow.laid W) : Tab W := by
 rw [MakeChecks.laidMetH_plain _ _ _ (by kernel_rfl)] at h
 obtain ⟨g, hg⟩ : ∃ g, Tryd.prog.globalNamed "internal/strconv.uint64pow10" = some g := by
  have : (Tryd.prog.globalNamed "internal/strconv.uint64pow10").isSome = true := by kernel_rfl
  exact Option.isSome_iff_exists.1 this
 have hty : ((Tryd.prog.globalNamed "internal/strconv.uint64pow10").bind fun g => (Tryd.prog.globals[g]?).map (·.type)) = some 128 := by kernel_rfl
 rw [hg] at hty
 exact Lib.tabIs_of_head (rest := _) hg hty Tryd.underlying128 Tryd.underlying22 (by kernel_rfl) (by kernel_rfl) h.tail.tail
theorem tabB_ieeeOrder {W : World} (h : laidMetH Tryd.prog Rows.ieeeOrderRow.laid W) : TabB W := by
 rw [MakeChecks.laidMetH_plain _ _ _ (by kernel_rfl)] at h
 obtain ⟨g, hg⟩ : ∃ g, Tryd.prog.globalNamed "math/bits.deBruijn64tab" = some g := by
  have : (Tryd.prog.globalNamed "math/bits.deBruijn64tab").isSome = true := by kernel_rfl
  exact Option.isSome_iff_exists.1 this
 have hty : ((Tryd.prog.globalNamed "math/bits.deBruijn64tab").bind fun g => (Tryd.prog.globals[g]?).map (·.type)) = some 126 := by kernel_rfl
 rw [hg] at hty
 exact Lib.tabIs_of_head (rest := _) hg hty Tryd.underlying126 Tryd.underlying5 (by kernel_rfl) (by kernel_rfl) h.tail
end Go.Proofs.YtnhobagjpjcigaaDoor
