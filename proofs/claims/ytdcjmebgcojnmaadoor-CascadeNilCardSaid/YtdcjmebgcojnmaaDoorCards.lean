/-
  DERIVED. GIVEN WITH THE SEED: THE CARDS: each row of YtdcjmebgcojnmaaDoorRows.lean that lists a variable, with what it lists TIED to the program's text (the seventh form; the later family's looks); each row that meets fmt, with fmt's text TOLD by the authors' own Lean function (tested against real Go, not proved from fmt's source: count such statements apart). THE CARD IS WHAT COUNTS. Prove the row's statement (the work); the ties are given (YtdcjmebgcojnmaaDoorTie.lean); close each card by the builder's one call (the guide's Derived/Test/ToyasCard.lean, 'card_holds'). Laid BY PROGRAM, IN A SANDBOX (cutbox-door.mjs). By AI agents, Wed Nov 11 2026. No macro, syntax, notation, axiom, sorry.
-/
import Derived.Test.YtdcjmebgcojnmaaDoorRows
import GoSem.ClaimSeven
namespace Go.Proofs.YtdcjmebgcojnmaaDoor
namespace Rows

/-- THE TIED CARD OF 'cubbyholelaw19.WheelNil'. -/
def wheelNilCard : Claim7 := { stood := { row := wheelNilRow, standIns := [], harness := (true, "45258f569f27e61ca8f270cd3194a2ce729651667c36712c2f0498126a048f59"), looks := true }, kinds := [], alts := [], laidByText := true, laidKinds := [.data], laidTests := true, laidLooks := .later }
def WheelNilCardSaid : Prop := Claim7.holds Tryd.pinned (.plain (OpenSpec.ofChange wheelNilSpec)) wheelNilCard

/-- THE TIED CARD OF 'cubbyholelaw20.CascadeNil'. -/
def cascadeNilCard : Claim7 := { stood := { row := cascadeNilRow, standIns := [], harness := (true, "45258f569f27e61ca8f270cd3194a2ce729651667c36712c2f0498126a048f59"), looks := true }, kinds := [], alts := [], laidByText := true, laidKinds := [.data], laidTests := true, laidLooks := .later }
def CascadeNilCardSaid : Prop := Claim7.holds Tryd.pinned (.plain (OpenSpec.ofChange cascadeNilSpec)) cascadeNilCard

/-- THE SECOND FORM's CARD OF 'cubbyholelaw19.WheelNil'. -/
def wheelNilUptoCard : Claim7 := { stood := { row := wheelNilUptoRow, standIns := [], harness := (true, "45258f569f27e61ca8f270cd3194a2ce729651667c36712c2f0498126a048f59"), looks := true }, kinds := [], alts := [], laidByText := true, laidKinds := [.data], laidTests := true, laidLooks := .later }
def WheelNilUptoCardSaid : Prop := Claim7.holds Tryd.pinned (.plain (OpenSpec.upto wheelNilSpec)) wheelNilUptoCard

/-- THE SECOND FORM's CARD OF 'cubbyholelaw20.CascadeNil'. -/
def cascadeNilUptoCard : Claim7 := { stood := { row := cascadeNilUptoRow, standIns := [], harness := (true, "45258f569f27e61ca8f270cd3194a2ce729651667c36712c2f0498126a048f59"), looks := true }, kinds := [], alts := [], laidByText := true, laidKinds := [.data], laidTests := true, laidLooks := .later }
def CascadeNilUptoCardSaid : Prop := Claim7.holds Tryd.pinned (.plain (OpenSpec.upto cascadeNilSpec)) cascadeNilUptoCard
end Rows
end Go.Proofs.YtdcjmebgcojnmaaDoor
