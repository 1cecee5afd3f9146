/-
  DERIVED. GIVEN WITH THE SEED: THE CARDS: each row of YtnhobagjpjcigaaGreatDoorRows.lean that lists a variable, with what it lists TIED to the program's text (the seventh form; the later family's looks); each row that meets fmt, with fmt's text TOLD by the authors' own Lean function (tested against real Go, not proved from fmt's source: count such statements apart). THE CARD IS WHAT COUNTS. Prove the row's statement (the work); the ties are given (YtnhobagjpjcigaaGreatDoorTie.lean); close each card by the builder's one call (the guide's Derived/Test/ToyasCard.lean, 'card_holds'). Laid BY PROGRAM, IN A SANDBOX (cutbox-door.mjs). By AI agents, Wed Nov 11 2026. No macro, syntax, notation, axiom, sorry.
-/
import Derived.Test.YtnhobagjpjcigaaGreatDoorRows
import GoSem.ClaimSeven
namespace Go.Proofs.YtnhobagjpjcigaaGreatDoor
namespace Rows

/-- THE TIED CARD OF 'hornbeamlaw3.DecTells'. -/
def decTellsCard : Claim7 := { stood := { row := decTellsRow, standIns := [], harness := (true, "24e2f95f867668fde97bfb26fabd561053edc5c014a4434250bba6968311e103"), looks := false }, kinds := [], alts := [], laidByText := true, laidKinds := [.data, .data, .data, .data, .pinned], laidTests := true, laidLooks := .later }
def DecTellsCardSaid : Prop := Claim7.holds Tryz.pinned (.plain (OpenSpec.ofChange decTellsSpec)) decTellsCard

/-- THE TIED CARD OF 'hornbeamlaw3.DecBack'. -/
def decBackCard : Claim7 := { stood := { row := decBackRow, standIns := [], harness := (true, "24e2f95f867668fde97bfb26fabd561053edc5c014a4434250bba6968311e103"), looks := false }, kinds := [], alts := [], laidByText := true, laidKinds := [.data, .data, .data, .data, .pinned], laidTests := true, laidLooks := .later }
def DecBackCardSaid : Prop := Claim7.holds Tryz.pinned (.plain (OpenSpec.ofChange decBackSpec)) decBackCard

/-- THE TIED CARD OF 'hornbeamlaw3.DecShifts'. -/
def decShiftsCard : Claim7 := { stood := { row := decShiftsRow, standIns := [], harness := (true, "24e2f95f867668fde97bfb26fabd561053edc5c014a4434250bba6968311e103"), looks := false }, kinds := [], alts := [], laidByText := true, laidKinds := [.data, .data, .data, .data, .pinned], laidTests := true, laidLooks := .later }
def DecShiftsCardSaid : Prop := Claim7.holds Tryz.pinned (.plain (OpenSpec.ofChange decShiftsSpec)) decShiftsCard

/-- THE TIED CARD OF 'hornbeamlaw3.DecFinite'. -/
def decFiniteCard : Claim7 := { stood := { row := decFiniteRow, standIns := [], harness := (true, "24e2f95f867668fde97bfb26fabd561053edc5c014a4434250bba6968311e103"), looks := false }, kinds := [], alts := [], laidByText := true, laidKinds := [.data, .data, .data, .data, .pinned], laidTests := true, laidLooks := .later }
def DecFiniteCardSaid : Prop := Claim7.holds Tryz.pinned (.plain (OpenSpec.ofChange decFiniteSpec)) decFiniteCard

/-- THE TIED CARD OF 'hornbeamlaw4.IeeeFinds'. -/
def ieeeFindsCard : Claim7 := { stood := { row := ieeeFindsRow, standIns := [], harness := (true, "24e2f95f867668fde97bfb26fabd561053edc5c014a4434250bba6968311e103"), looks := false }, kinds := [], alts := [], laidByText := true, laidKinds := [.data, .data, .data, .data, .pinned], laidTests := true, laidLooks := .later }
def IeeeFindsCardSaid : Prop := Claim7.holds Tryz.pinned (.plain (OpenSpec.ofChange ieeeFindsSpec)) ieeeFindsCard

/-- THE TIED CARD OF 'hornbeamlaw4.IeeeNext'. -/
def ieeeNextCard : Claim7 := { stood := { row := ieeeNextRow, standIns := [], harness := (true, "24e2f95f867668fde97bfb26fabd561053edc5c014a4434250bba6968311e103"), looks := false }, kinds := [], alts := [], laidByText := true, laidKinds := [.data, .data, .data, .data, .pinned], laidTests := true, laidLooks := .later }
def IeeeNextCardSaid : Prop := Claim7.holds Tryz.pinned (.plain (OpenSpec.ofChange ieeeNextSpec)) ieeeNextCard

/-- THE TIED CARD OF 'hornbeamlaw4.IeeeBetween'. -/
def ieeeBetweenCard : Claim7 := { stood := { row := ieeeBetweenRow, standIns := [], harness := (true, "24e2f95f867668fde97bfb26fabd561053edc5c014a4434250bba6968311e103"), looks := false }, kinds := [], alts := [], laidByText := true, laidKinds := [.data, .data, .data, .data, .pinned], laidTests := true, laidLooks := .later }
def IeeeBetweenCardSaid : Prop := Claim7.holds Tryz.pinned (.plain (OpenSpec.ofChange ieeeBetweenSpec)) ieeeBetweenCard

/-- THE SECOND FORM's CARD OF 'hornbeamlaw3.DecTells'. -/
def decTellsUptoCard : Claim7 := { stood := { row := decTellsUptoRow, standIns := [], harness := (true, "24e2f95f867668fde97bfb26fabd561053edc5c014a4434250bba6968311e103"), looks := false }, kinds := [], alts := [], laidByText := true, laidKinds := [.data, .data, .data, .data, .pinned], laidTests := true, laidLooks := .later }
def DecTellsUptoCardSaid : Prop := Claim7.holds Tryz.pinned (.plain (OpenSpec.upto decTellsSpec)) decTellsUptoCard

/-- THE SECOND FORM's CARD OF 'hornbeamlaw3.DecBack'. -/
def decBackUptoCard : Claim7 := { stood := { row := decBackUptoRow, standIns := [], harness := (true, "24e2f95f867668fde97bfb26fabd561053edc5c014a4434250bba6968311e103"), looks := false }, kinds := [], alts := [], laidByText := true, laidKinds := [.data, .data, .data, .data, .pinned], laidTests := true, laidLooks := .later }
def DecBackUptoCardSaid : Prop := Claim7.holds Tryz.pinned (.plain (OpenSpec.upto decBackSpec)) decBackUptoCard

/-- THE SECOND FORM's CARD OF 'hornbeamlaw3.DecShifts'. -/
def decShiftsUptoCard : Claim7 := { stood := { row := decShiftsUptoRow, standIns := [], harness := (true, "24e2f95f867668fde97bfb26fabd561053edc5c014a4434250bba6968311e103"), looks := false }, kinds := [], alts := [], laidByText := true, laidKinds := [.data, .data, .data, .data, .pinned], laidTests := true, laidLooks := .later }
def DecShiftsUptoCardSaid : Prop := Claim7.holds Tryz.pinned (.plain (OpenSpec.upto decShiftsSpec)) decShiftsUptoCard

/-- THE SECOND FORM's CARD OF 'hornbeamlaw3.DecFinite'. -/
def decFiniteUptoCard : Claim7 := { stood := { row := decFiniteUptoRow, standIns := [], harness := (true, "24e2f95f867668fde97bfb26fabd561053edc5c014a4434250bba6968311e103"), looks := false }, kinds := [], alts := [], laidByText := true, laidKinds := [.data, .data, .data, .data, .pinned], laidTests := true, laidLooks := .later }
def DecFiniteUptoCardSaid : Prop := Claim7.holds Tryz.pinned (.plain (OpenSpec.upto decFiniteSpec)) decFiniteUptoCard

/-- THE SECOND FORM's CARD OF 'hornbeamlaw4.IeeeFinds'. -/
def ieeeFindsUptoCard : Claim7 := { stood := { row := ieeeFindsUptoRow, standIns := [], harness := (true, "24e2f95f867668fde97bfb26fabd561053edc5c014a4434250bba6968311e103"), looks := false }, kinds := [], alts := [], laidByText := true, laidKinds := [.data, .data, .data, .data, .pinned], laidTests := true, laidLooks := .later }
def IeeeFindsUptoCardSaid : Prop := Claim7.holds Tryz.pinned (.plain (OpenSpec.upto ieeeFindsSpec)) ieeeFindsUptoCard

/-- THE SECOND FORM's CARD OF 'hornbeamlaw4.IeeeNext'. -/
def ieeeNextUptoCard : Claim7 := { stood := { row := ieeeNextUptoRow, standIns := [], harness := (true, "24e2f95f867668fde97bfb26fabd561053edc5c014a4434250bba6968311e103"), looks := false }, kinds := [], alts := [], laidByText := true, laidKinds := [.data, .data, .data, .data, .pinned], laidTests := true, laidLooks := .later }
def IeeeNextUptoCardSaid : Prop := Claim7.holds Tryz.pinned (.plain (OpenSpec.upto ieeeNextSpec)) ieeeNextUptoCard

/-- THE SECOND FORM's CARD OF 'hornbeamlaw4.IeeeBetween'. -/
def ieeeBetweenUptoCard : Claim7 := { stood := { row := ieeeBetweenUptoRow, standIns := [], harness := (true, "24e2f95f867668fde97bfb26fabd561053edc5c014a4434250bba6968311e103"), looks := false }, kinds := [], alts := [], laidByText := true, laidKinds := [.data, .data, .data, .data, .pinned], laidTests := true, laidLooks := .later }
def IeeeBetweenUptoCardSaid : Prop := Claim7.holds Tryz.pinned (.plain (OpenSpec.upto ieeeBetweenSpec)) ieeeBetweenUptoCard
end Rows
end Go.Proofs.YtnhobagjpjcigaaGreatDoor
