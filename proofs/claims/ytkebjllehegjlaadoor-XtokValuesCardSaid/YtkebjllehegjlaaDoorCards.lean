/-
  DERIVED. GIVEN WITH THE SEED: THE CARDS: each row of YtkebjllehegjlaaDoorRows.lean that lists a variable, with what it lists TIED to the program's text (the seventh form; the later family's looks); each row that meets fmt, with fmt's text TOLD by the authors' own Lean function (tested against real Go, not proved from fmt's source: count such statements apart). THE CARD IS WHAT COUNTS. Prove the row's statement (the work); the ties are given (YtkebjllehegjlaaDoorTie.lean); close each card by the builder's one call (the guide's Derived/Test/ToyasCard.lean, 'card_holds'). Laid BY PROGRAM, IN A SANDBOX (cutbox-door.mjs). By AI agents, Wed Nov 11 2026. No macro, syntax, notation, axiom, sorry.
-/
import Derived.Test.YtkebjllehegjlaaDoorRows
import GoSem.ClaimSeven
namespace Go.Proofs.YtkebjllehegjlaaDoor
namespace Rows

/-- THE TIED CARD OF 'hornbeamlaw7.XtokValues'. -/
def xtokValuesCard : Claim7 := { stood := { row := xtokValuesRow, standIns := [], harness := (true, "6068d8af1579d98223141d2762d15c36a8c469cb24dd855a756c56d869b6a149"), looks := true }, kinds := [], alts := [], laidByText := true, laidKinds := [.data, .data, .data, .data, .sentinel, .sentinel, .data, .data, .pinned, .pinned], laidTests := true, laidLooks := .later }
def XtokValuesCardSaid : Prop := Claim7.holds Tryd.pinned (.plain (OpenSpec.ofChange xtokValuesSpec)) xtokValuesCard

/-- THE TIED CARD OF 'hornbeamlaw7.XtokNumbers'. -/
def xtokNumbersCard : Claim7 := { stood := { row := xtokNumbersRow, standIns := [], harness := (true, "6068d8af1579d98223141d2762d15c36a8c469cb24dd855a756c56d869b6a149"), looks := true }, kinds := [], alts := [], laidByText := true, laidKinds := [.data, .data, .data, .data, .sentinel, .sentinel, .data, .data, .pinned, .pinned], laidTests := true, laidLooks := .later }
def XtokNumbersCardSaid : Prop := Claim7.holds Tryd.pinned (.plain (OpenSpec.ofChange xtokNumbersSpec)) xtokNumbersCard

/-- THE SECOND FORM's CARD OF 'hornbeamlaw7.XtokValues'. -/
def xtokValuesUptoCard : Claim7 := { stood := { row := xtokValuesUptoRow, standIns := [], harness := (true, "6068d8af1579d98223141d2762d15c36a8c469cb24dd855a756c56d869b6a149"), looks := true }, kinds := [], alts := [], laidByText := true, laidKinds := [.data, .data, .data, .data, .sentinel, .sentinel, .data, .data, .pinned, .pinned], laidTests := true, laidLooks := .later }
def XtokValuesUptoCardSaid : Prop := Claim7.holds Tryd.pinned (.plain (OpenSpec.upto xtokValuesSpec)) xtokValuesUptoCard

/-- THE SECOND FORM's CARD OF 'hornbeamlaw7.XtokNumbers'. -/
def xtokNumbersUptoCard : Claim7 := { stood := { row := xtokNumbersUptoRow, standIns := [], harness := (true, "6068d8af1579d98223141d2762d15c36a8c469cb24dd855a756c56d869b6a149"), looks := true }, kinds := [], alts := [], laidByText := true, laidKinds := [.data, .data, .data, .data, .sentinel, .sentinel, .data, .data, .pinned, .pinned], laidTests := true, laidLooks := .later }
def XtokNumbersUptoCardSaid : Prop := Claim7.holds Tryd.pinned (.plain (OpenSpec.upto xtokNumbersSpec)) xtokNumbersUptoCard
end Rows
end Go.Proofs.YtkebjllehegjlaaDoor
