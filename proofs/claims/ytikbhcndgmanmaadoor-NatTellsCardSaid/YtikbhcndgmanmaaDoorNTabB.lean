/-
  The table of math/bits, out of what the statement's row lists.
-/
import Derived.Test.YtikbhcndgmanmaaDoorNGcdA
import Derived.Test.YtikbhcndgmanmaaDoorNTab
namespace Go.Proofs.YtikbhcndgmanmaaDoor
open Go
theorem tabB_laid {W : World} (h : laidMetH Tryd.prog Rows.natTellsRow.laid W) : TabB W := by
  rw [MakeChecks.laidMetH_plain _ _ _ (by kernel_rfl)] at h
  obtain ⟨g, hg⟩ : ∃ g, Tryd.prog.globalNamed "math/bits.deBruijn64tab" = some g := by
    have : (Tryd.prog.globalNamed "math/bits.deBruijn64tab").isSome = true := by kernel_rfl
    exact Option.isSome_iff_exists.1 this
  have hty : ((Tryd.prog.globalNamed "math/bits.deBruijn64tab").bind fun g => (Tryd.prog.globals[g]?).map (·.type)) = some 106 := by kernel_rfl
  rw [hg] at hty
  exact Lib.tabIs_of_head (rest := [_]) hg hty Tryd.underlying106 Tryd.underlying5 (by kernel_rfl) (by kernel_rfl) h.tail
end Go.Proofs.YtikbhcndgmanmaaDoor
