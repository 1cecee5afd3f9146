/-
 Law 4: the pattern of the next number (ieee's Next).
-/
import Derived.Test.YtnhobagjpjcigaaGreatDoorEUnit
import Derived.Test.YtnhobagjpjcigaaGreatDoorENextM
namespace Go.Proofs.YtnhobagjpjcigaaGreatDoor
open Go.RowKit
set_option linter.unusedVariables false
end Go.Proofs.YtnhobagjpjcigaaGreatDoor
