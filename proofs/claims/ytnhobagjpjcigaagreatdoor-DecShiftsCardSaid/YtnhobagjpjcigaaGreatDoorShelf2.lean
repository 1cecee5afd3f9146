/-
  Contracts of the library, laid: Itoa stands in the first shelf.
-/
import Derived.Test.YtnhobagjpjcigaaGreatDoorShelf
namespace Go.Proofs.YtnhobagjpjcigaaGreatDoor
end Go.Proofs.YtnhobagjpjcigaaGreatDoor
