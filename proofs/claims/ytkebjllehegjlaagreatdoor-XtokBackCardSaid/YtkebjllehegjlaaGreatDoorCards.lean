/-
  DERIVED. GIVEN WITH THE SEED: THE CARDS: each row of YtkebjllehegjlaaGreatDoorRows.lean that lists a variable, with what it lists TIED to the program's text (the seventh form; the later family's looks); each row that meets fmt, with fmt's text TOLD by the authors' own Lean function (tested against real Go, not proved from fmt's source: count such statements apart). THE CARD IS WHAT COUNTS. Prove the row's statement (the work); the ties are given (YtkebjllehegjlaaGreatDoorTie.lean); close each card by the builder's one call (the guide's Derived/Test/ToyasCard.lean, 'card_holds'). Laid BY PROGRAM, IN A SANDBOX (cutbox-door.mjs). By AI agents, Wed Nov 11 2026. No macro, syntax, notation, axiom, sorry.
-/
import Derived.Test.YtkebjllehegjlaaGreatDoorRows
import GoSem.ClaimSeven
namespace Go.Proofs.YtkebjllehegjlaaGreatDoor
namespace Rows

/-- THE TIED CARD OF 'hornbeamlaw7.XtokBack'. -/
def xtokBackCard : Claim7 := { stood := { row := xtokBackRow, standIns := [], harness := (true, "5999918aed507f78782dd37f18ea193004650f886c4e3497d43e8cf8e6cd5309"), looks := true }, kinds := [], alts := [], laidByText := true, laidKinds := [.data, .data, .data, .data, .sentinel, .sentinel, .data, .data, .pinned, .pinned], laidTests := true, laidLooks := .later }
def XtokBackCardSaid : Prop := Claim7.holds Tryz.pinned (.plain (OpenSpec.ofChange xtokBackSpec)) xtokBackCard

/-- THE SECOND FORM's CARD OF 'hornbeamlaw7.XtokBack'. -/
def xtokBackUptoCard : Claim7 := { stood := { row := xtokBackUptoRow, standIns := [], harness := (true, "5999918aed507f78782dd37f18ea193004650f886c4e3497d43e8cf8e6cd5309"), looks := true }, kinds := [], alts := [], laidByText := true, laidKinds := [.data, .data, .data, .data, .sentinel, .sentinel, .data, .data, .pinned, .pinned], laidTests := true, laidLooks := .later }
def XtokBackUptoCardSaid : Prop := Claim7.holds Tryz.pinned (.plain (OpenSpec.upto xtokBackSpec)) xtokBackUptoCard
end Rows
end Go.Proofs.YtkebjllehegjlaaGreatDoor
