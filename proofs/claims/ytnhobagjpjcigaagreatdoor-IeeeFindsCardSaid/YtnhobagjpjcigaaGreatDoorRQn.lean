/-
 Law 2: the numbers of the document's own quotients, and of what is rounded.
-/
import Derived.Test.YtnhobagjpjcigaaGreatDoorQJ
import Derived.Test.YtnhobagjpjcigaaGreatDoorRQm
namespace Go.Proofs.YtnhobagjpjcigaaGreatDoor
open Go.RowKit
set_option linter.unusedVariables false
end Go.Proofs.YtnhobagjpjcigaaGreatDoor
