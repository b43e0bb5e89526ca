/-
  DERIVED. GIVEN WITH THE SEED: THE CARDS: each row of YtepgmcpjphddaaaDoorRows.lean that lists a variable, with what it lists TIED to the program's text (the seventh form; the later family's looks); each row that meets fmt, with fmt's text TOLD by the authors' own Lean function (tested against real Go, not proved from fmt's source: count such statements apart). THE CARD IS WHAT COUNTS. Prove the row's statement (the work); the ties are given (YtepgmcpjphddaaaDoorTie.lean); close each card by the builder's one call (the guide's Derived/Test/ToyasCard.lean, 'card_holds'). Laid BY PROGRAM, IN A SANDBOX (cutbox-door.mjs). By AI agents, Wed Nov 11 2026. No macro, syntax, notation, axiom, sorry.
-/
import Derived.Test.YtepgmcpjphddaaaDoorRows
import GoSem.ClaimSeven
namespace Go.Proofs.YtepgmcpjphddaaaDoor
namespace Rows

/-- THE TIED CARD OF 'cubbyholelaw22.EventNil'. -/
def eventNilCard : Claim7 := { stood := { row := eventNilRow, standIns := [], harness := (true, "ed137a3e8b3f58587ad5d691383902eb46b6ef9cfb20a18a88313fd88ea89f57"), looks := true }, kinds := [], alts := [], laidByText := true, laidKinds := [.data, .data, .data, .sentinel, .sentinel, .data, .data], laidTests := true, laidLooks := .later }
def EventNilCardSaid : Prop := Claim7.holds Tryd.pinned (.plain (OpenSpec.ofChange eventNilSpec)) eventNilCard

/-- THE SECOND FORM's CARD OF 'cubbyholelaw22.EventNil'. -/
def eventNilUptoCard : Claim7 := { stood := { row := eventNilUptoRow, standIns := [], harness := (true, "ed137a3e8b3f58587ad5d691383902eb46b6ef9cfb20a18a88313fd88ea89f57"), looks := true }, kinds := [], alts := [], laidByText := true, laidKinds := [.data, .data, .data, .sentinel, .sentinel, .data, .data], laidTests := true, laidLooks := .later }
def EventNilUptoCardSaid : Prop := Claim7.holds Tryd.pinned (.plain (OpenSpec.upto eventNilSpec)) eventNilUptoCard
end Rows
end Go.Proofs.YtepgmcpjphddaaaDoor
