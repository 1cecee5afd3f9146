/-
 Law 2: the first call of the statements, whose answer the document fixes: it answers true.
 RatTexts: its numbers and texts.
-/
import Derived.Test.YtnhobagjpjcigaaGreatDoorQPp
namespace Go.Proofs.YtnhobagjpjcigaaGreatDoor
open Go.RowKit
set_option linter.unusedVariables false
theorem w_pos (k:Nat) (h:1≤k) {N:Nat} (hN:N < 18446744073709551616):N < 18446744073709551616^k:=Nat.lt_of_lt_of_le (by rw [Nat.pow_one];exact hN) (w64_mono (j:=1) h)
theorem dg_one {k:Nat} (h:k < 10):dg k=⟨#[UInt8.ofNat (48 + k)]⟩:=by unfold dg;rw [Lib.decDigits_one h]
end Go.Proofs.YtnhobagjpjcigaaGreatDoor
namespace Go.Proofs.YtnhobagjpjcigaaGreatDoor
open Go.RowKit
set_option linter.unusedVariables false
end Go.Proofs.YtnhobagjpjcigaaGreatDoor
