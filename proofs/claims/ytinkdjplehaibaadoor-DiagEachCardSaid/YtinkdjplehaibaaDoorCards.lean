/-
  DERIVED. GIVEN WITH THE SEED: THE CARDS: each row of YtinkdjplehaibaaDoorRows.lean that lists a variable, with what it lists TIED to the program's text (the seventh form; the later family's looks); each row that meets fmt, with fmt's text TOLD by the authors' own Lean function (tested against real Go, not proved from fmt's source: count such statements apart). THE CARD IS WHAT COUNTS. Prove the row's statement (the work); the ties are given (YtinkdjplehaibaaDoorTie.lean); close each card by the builder's one call (the guide's Derived/Test/ToyasCard.lean, 'card_holds'). Laid BY PROGRAM, IN A SANDBOX (cutbox-door.mjs). By AI agents, Wed Nov 11 2026. No macro, syntax, notation, axiom, sorry.
-/
import Derived.Test.YtinkdjplehaibaaDoorRows
import GoSem.ClaimSeven
namespace Go.Proofs.YtinkdjplehaibaaDoor
namespace Rows

/-- THE TIED CARD OF 'hornbeamlaw5.DiagTells'. -/
def diagTellsCard : Claim7 := { stood := { row := diagTellsRow, standIns := [], harness := (true, "55430c6d0d0f0fa8f7f7e0ff051953e6807137cac237282a510c26a5ec7bd4c9"), looks := false }, kinds := [], alts := [], laidByText := true, laidKinds := [.data, .data, .data], laidTests := true, laidLooks := .later }
def DiagTellsCardSaid : Prop := Claim7.holds Tryd.pinned (.plain (OpenSpec.ofChange diagTellsSpec)) diagTellsCard

/-- THE TIED CARD OF 'hornbeamlaw5.DiagEach'. -/
def diagEachCard : Claim7 := { stood := { row := diagEachRow, standIns := [], harness := (true, "55430c6d0d0f0fa8f7f7e0ff051953e6807137cac237282a510c26a5ec7bd4c9"), looks := false }, kinds := [], alts := [], laidByText := true, laidKinds := [.data, .data, .data], laidTests := true, laidLooks := .later }
def DiagEachCardSaid : Prop := Claim7.holds Tryd.pinned (.plain (OpenSpec.ofChange diagEachSpec)) diagEachCard

/-- THE SECOND FORM's CARD OF 'hornbeamlaw5.DiagTells'. -/
def diagTellsUptoCard : Claim7 := { stood := { row := diagTellsUptoRow, standIns := [], harness := (true, "55430c6d0d0f0fa8f7f7e0ff051953e6807137cac237282a510c26a5ec7bd4c9"), looks := false }, kinds := [], alts := [], laidByText := true, laidKinds := [.data, .data, .data], laidTests := true, laidLooks := .later }
def DiagTellsUptoCardSaid : Prop := Claim7.holds Tryd.pinned (.plain (OpenSpec.upto diagTellsSpec)) diagTellsUptoCard

/-- THE SECOND FORM's CARD OF 'hornbeamlaw5.DiagEach'. -/
def diagEachUptoCard : Claim7 := { stood := { row := diagEachUptoRow, standIns := [], harness := (true, "55430c6d0d0f0fa8f7f7e0ff051953e6807137cac237282a510c26a5ec7bd4c9"), looks := false }, kinds := [], alts := [], laidByText := true, laidKinds := [.data, .data, .data], laidTests := true, laidLooks := .later }
def DiagEachUptoCardSaid : Prop := Claim7.holds Tryd.pinned (.plain (OpenSpec.upto diagEachSpec)) diagEachUptoCard
end Rows
end Go.Proofs.YtinkdjplehaibaaDoor
