/-
 Law 2: a fraction's text held against the document's.
-/
import Derived.Test.YtggmnmmjmihnfaaGreatDoorRQb
namespace Go.Proofs.YtggmnmmjmihnfaaGreatDoor
open Go.RowKit
set_option linter.unusedVariables false
theorem list_eqb (a b : ByteArray) : (a.toList == b.toList) = decide (a = b) := by
 by_cases h : a = b
 · subst h; simp
 · rw [decide_eq_false h]
   simp only [beq_eq_false_iff_ne, ne_eq]
   rw [ByteArray.toList_eq, ByteArray.toList_eq]
   exact fun e => h (bytes_ext e)
end Go.Proofs.YtggmnmmjmihnfaaGreatDoor
