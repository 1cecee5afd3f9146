/-
  DERIVED. GIVEN WITH THE SEED: THE CARDS: each row of YtikbhcndgmanmaaDoorRows.lean that lists a variable, with what it lists TIED to the program's text (the seventh form; the later family's looks); each row that meets fmt, with fmt's text TOLD by the authors' own Lean function (tested against real Go, not proved from fmt's source: count such statements apart). THE CARD IS WHAT COUNTS. Prove the row's statement (the work); the ties are given (YtikbhcndgmanmaaDoorTie.lean); close each card by the builder's one call (the guide's Derived/Test/ToyasCard.lean, 'card_holds'). Laid BY PROGRAM, IN A SANDBOX (cutbox-door.mjs). By AI agents, Wed Nov 11 2026. No macro, syntax, notation, axiom, sorry.
-/
import Derived.Test.YtikbhcndgmanmaaDoorRows
import GoSem.ClaimSeven
namespace Go.Proofs.YtikbhcndgmanmaaDoor
namespace Rows

/-- THE TIED CARD OF 'hornbeamlaw1.NatTells'. -/
def natTellsCard : Claim7 := { stood := { row := natTellsRow, standIns := [], harness := (true, "093aad9f13a2374cddb5298711d80dc62a6b44cac94d041de4ca575b4c8589cb"), looks := false }, kinds := [], alts := [], laidByText := true, laidKinds := [.data, .data, .data], laidTests := true, laidLooks := .later }
def NatTellsCardSaid : Prop := Claim7.holds Tryd.pinned (.plain (OpenSpec.ofChange natTellsSpec)) natTellsCard

/-- THE TIED CARD OF 'hornbeamlaw1.NatPowers'. -/
def natPowersCard : Claim7 := { stood := { row := natPowersRow, standIns := [], harness := (true, "093aad9f13a2374cddb5298711d80dc62a6b44cac94d041de4ca575b4c8589cb"), looks := false }, kinds := [], alts := [], laidByText := true, laidKinds := [.data, .data, .data], laidTests := true, laidLooks := .later }
def NatPowersCardSaid : Prop := Claim7.holds Tryd.pinned (.plain (OpenSpec.ofChange natPowersSpec)) natPowersCard

/-- THE TIED CARD OF 'hornbeamlaw1.NatIterates'. -/
def natIteratesCard : Claim7 := { stood := { row := natIteratesRow, standIns := [], harness := (true, "093aad9f13a2374cddb5298711d80dc62a6b44cac94d041de4ca575b4c8589cb"), looks := false }, kinds := [], alts := [], laidByText := true, laidKinds := [.data, .data, .data], laidTests := true, laidLooks := .later }
def NatIteratesCardSaid : Prop := Claim7.holds Tryd.pinned (.plain (OpenSpec.ofChange natIteratesSpec)) natIteratesCard

/-- THE SECOND FORM's CARD OF 'hornbeamlaw1.NatTells'. -/
def natTellsUptoCard : Claim7 := { stood := { row := natTellsUptoRow, standIns := [], harness := (true, "093aad9f13a2374cddb5298711d80dc62a6b44cac94d041de4ca575b4c8589cb"), looks := false }, kinds := [], alts := [], laidByText := true, laidKinds := [.data, .data, .data], laidTests := true, laidLooks := .later }
def NatTellsUptoCardSaid : Prop := Claim7.holds Tryd.pinned (.plain (OpenSpec.upto natTellsSpec)) natTellsUptoCard

/-- THE SECOND FORM's CARD OF 'hornbeamlaw1.NatPowers'. -/
def natPowersUptoCard : Claim7 := { stood := { row := natPowersUptoRow, standIns := [], harness := (true, "093aad9f13a2374cddb5298711d80dc62a6b44cac94d041de4ca575b4c8589cb"), looks := false }, kinds := [], alts := [], laidByText := true, laidKinds := [.data, .data, .data], laidTests := true, laidLooks := .later }
def NatPowersUptoCardSaid : Prop := Claim7.holds Tryd.pinned (.plain (OpenSpec.upto natPowersSpec)) natPowersUptoCard

/-- THE SECOND FORM's CARD OF 'hornbeamlaw1.NatIterates'. -/
def natIteratesUptoCard : Claim7 := { stood := { row := natIteratesUptoRow, standIns := [], harness := (true, "093aad9f13a2374cddb5298711d80dc62a6b44cac94d041de4ca575b4c8589cb"), looks := false }, kinds := [], alts := [], laidByText := true, laidKinds := [.data, .data, .data], laidTests := true, laidLooks := .later }
def NatIteratesUptoCardSaid : Prop := Claim7.holds Tryd.pinned (.plain (OpenSpec.upto natIteratesSpec)) natIteratesUptoCard
end Rows
end Go.Proofs.YtikbhcndgmanmaaDoor
