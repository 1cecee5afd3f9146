/-
 Law 2: Mul.
 Law 2: Div.
 Law 2: sizes by 19 digits a word.
-/
import Derived.Test.YtllmacokhjmdgaaGreatDoorQG
namespace Go.Proofs.YtllmacokhjmdgaaGreatDoor
open Go.RowKit
set_option linter.unusedVariables false
end Go.Proofs.YtllmacokhjmdgaaGreatDoor
namespace Go.Proofs.YtllmacokhjmdgaaGreatDoor
open Go.RowKit
set_option linter.unusedVariables false
end Go.Proofs.YtllmacokhjmdgaaGreatDoor
namespace Go.Proofs.YtllmacokhjmdgaaGreatDoor
open Go.RowKit
set_option linter.unusedVariables false
end Go.Proofs.YtllmacokhjmdgaaGreatDoor
