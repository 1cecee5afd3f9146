/-
  The table of the powers of ten, out of what the statement's row lists.
-/
import Derived.Test.YtikbhcndgmanmaaDoorNFmt
import Derived.Test.YtikbhcndgmanmaaDoorRows
import Derived.Lib.LaidTab
import Derived.Stop.LaidErr
import Derived.PinnedBridge
import Derived.MakeChecks
namespace Go.Proofs.YtikbhcndgmanmaaDoor
open Go
theorem tab_laidI {W : World} (h : laidMetH Tryd.prog Rows.natIteratesRow.laid W) : Tab W := by
  rw [MakeChecks.laidMetH_plain _ _ _ (by kernel_rfl)] at h
  obtain ⟨g, hg⟩ : ∃ g, Tryd.prog.globalNamed "internal/strconv.uint64pow10" = some g := by
    have : (Tryd.prog.globalNamed "internal/strconv.uint64pow10").isSome = true := by kernel_rfl
    exact Option.isSome_iff_exists.1 this
  have hty : ((Tryd.prog.globalNamed "internal/strconv.uint64pow10").bind fun g => (Tryd.prog.globals[g]?).map (·.type)) = some 117 := by kernel_rfl
  rw [hg] at hty
  exact Lib.tabIs_of_head (rest := []) hg hty Tryd.underlying117 Tryd.underlying44 (by kernel_rfl) (by kernel_rfl) h.tail.tail
end Go.Proofs.YtikbhcndgmanmaaDoor
