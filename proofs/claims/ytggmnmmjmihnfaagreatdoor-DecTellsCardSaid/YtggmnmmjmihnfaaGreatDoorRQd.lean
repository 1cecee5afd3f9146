/-
 Law 2: the document's own fractions: RatAdd, RatCmp.
-/
import Derived.Test.YtggmnmmjmihnfaaGreatDoorRQc
import Derived.Test.YtggmnmmjmihnfaaGreatDoorRQn
namespace Go.Proofs.YtggmnmmjmihnfaaGreatDoor
open Go.RowKit
set_option linter.unusedVariables false
theorem d_mul5 {a b N j k : Nat} (h : a * b = N) (ha : a < 10000 ^ j) (hb : b < 10000 ^ k) (hjk : j + k ≤ 500) : N < 10000 ^ 500 := by
 rw [← h]; exact pow_up (j + k) 500 (d_mul ha hb) hjk
end Go.Proofs.YtggmnmmjmihnfaaGreatDoor
