/-
 Law 2: the numbers of the document's own quotients, and of what is rounded.
-/
import Derived.Test.YtllmacokhjmdgaaGreatDoorQJ
import Derived.Test.YtllmacokhjmdgaaGreatDoorRQm
namespace Go.Proofs.YtllmacokhjmdgaaGreatDoor
open Go.RowKit
set_option linter.unusedVariables false
end Go.Proofs.YtllmacokhjmdgaaGreatDoor
