/-
  Contracts of the library, laid.
-/
import Derived.Test.YtggmnmmjmihnfaaGreatDoorShelf
namespace Go.Proofs.YtggmnmmjmihnfaaGreatDoor
end Go.Proofs.YtggmnmmjmihnfaaGreatDoor
