/-
 Law 2: the document's own fractions: RatMul, RatDiv.
-/
import Derived.Test.YtggmnmmjmihnfaaGreatDoorRQb
import Derived.Test.YtggmnmmjmihnfaaGreatDoorRQn
namespace Go.Proofs.YtggmnmmjmihnfaaGreatDoor
open Go.RowKit
set_option linter.unusedVariables false
theorem cell_set3 {W : World} {b b' i : Nat} (hne : b' ≠ b) {y0 y1 y2 : Value} : World.cell? (set3 W b y0 y1 y2) ⟨b', i, none⟩ = W.cell? ⟨b', i, none⟩ := by
 have h : ∀ j : Nat, (⟨b', i, none⟩ : Addr) ≠ ⟨b, j, none⟩ := fun j e => by injection e with e1; exact hne e1
 show (((W.setCell ⟨b, 0, none⟩ y0).setCell ⟨b, 1, none⟩ y1).setCell ⟨b, 2, none⟩ y2).cell? _ = _
 rw [World.cell?_setCell_other _ _ _ _ (h 2).symm, World.cell?_setCell_other _ _ _ _ (h 1).symm, World.cell?_setCell_other _ _ _ _ (h 0).symm]
end Go.Proofs.YtggmnmmjmihnfaaGreatDoor
