/-
  DERIVED. GIVEN WITH THE SEED: THE CARDS: each row of YtcbekibofgcoaaaDoorRows.lean that lists a variable, with what it lists TIED to the program's text (the seventh form; the later family's looks); each row that meets fmt, with fmt's text TOLD by the authors' own Lean function (tested against real Go, not proved from fmt's source: count such statements apart). THE CARD IS WHAT COUNTS. Prove the row's statement (the work); the ties are given (YtcbekibofgcoaaaDoorTie.lean); close each card by the builder's one call (the guide's Derived/Test/ToyasCard.lean, 'card_holds'). Laid BY PROGRAM, IN A SANDBOX (cutbox-door.mjs). By AI agents, Wed Nov 11 2026. No macro, syntax, notation, axiom, sorry.
-/
import Derived.Test.YtcbekibofgcoaaaDoorRows
import GoSem.ClaimSeven
namespace Go.Proofs.YtcbekibofgcoaaaDoor
namespace Rows

/-- THE TIED CARD OF 'cubbyholelaw03.TickTexts'. -/
def tickTextsCard : Claim7 := { stood := { row := tickTextsRow, standIns := [], harness := (true, "1b80b77e0791ce9edd616526429bdc134f5fd8b6e722d6cf5ce77405b9ace0a4"), looks := true }, kinds := [], alts := [], laidByText := true, laidKinds := [.data, .data, .data, .sentinel, .sentinel], laidTests := true, laidLooks := .later }
def TickTextsCardSaid : Prop := Claim7.holds Tryd.pinned (.plain (OpenSpec.ofChange tickTextsSpec)) tickTextsCard

/-- THE TIED CARD OF 'cubbyholelaw03.TickHolds'. -/
def tickHoldsCard : Claim7 := { stood := { row := tickHoldsRow, standIns := [], harness := (true, "1b80b77e0791ce9edd616526429bdc134f5fd8b6e722d6cf5ce77405b9ace0a4"), looks := true }, kinds := [], alts := [], laidByText := true, laidKinds := [.data, .data, .data, .sentinel, .sentinel], laidTests := true, laidLooks := .later }
def TickHoldsCardSaid : Prop := Claim7.holds Tryd.pinned (.plain (OpenSpec.ofChange tickHoldsSpec)) tickHoldsCard

/-- THE TIED CARD OF 'cubbyholelaw05.ControlTexts'. -/
def controlTextsCard : Claim7 := { stood := { row := controlTextsRow, standIns := [], harness := (true, "1b80b77e0791ce9edd616526429bdc134f5fd8b6e722d6cf5ce77405b9ace0a4"), looks := true }, kinds := [], alts := [], laidByText := true, laidKinds := [.data, .data, .data], laidTests := true, laidLooks := .later }
def ControlTextsCardSaid : Prop := Claim7.holds Tryd.pinned (.plain (OpenSpec.ofChange controlTextsSpec)) controlTextsCard

/-- THE TIED CARD OF 'cubbyholelaw04.EntryTexts'. -/
def entryTextsCard : Claim7 := { stood := { row := entryTextsRow, standIns := [], harness := (true, "1b80b77e0791ce9edd616526429bdc134f5fd8b6e722d6cf5ce77405b9ace0a4"), looks := true }, kinds := [], alts := [], laidByText := true, laidKinds := [.data, .data, .data, .sentinel, .sentinel, .data], laidTests := true, laidLooks := .later }
def EntryTextsCardSaid : Prop := Claim7.holds Tryd.pinned (.plain (OpenSpec.ofChange entryTextsSpec)) entryTextsCard

/-- THE SECOND FORM's CARD OF 'cubbyholelaw03.TickTexts'. -/
def tickTextsUptoCard : Claim7 := { stood := { row := tickTextsUptoRow, standIns := [], harness := (true, "1b80b77e0791ce9edd616526429bdc134f5fd8b6e722d6cf5ce77405b9ace0a4"), looks := true }, kinds := [], alts := [], laidByText := true, laidKinds := [.data, .data, .data, .sentinel, .sentinel], laidTests := true, laidLooks := .later }
def TickTextsUptoCardSaid : Prop := Claim7.holds Tryd.pinned (.plain (OpenSpec.upto tickTextsSpec)) tickTextsUptoCard

/-- THE SECOND FORM's CARD OF 'cubbyholelaw03.TickHolds'. -/
def tickHoldsUptoCard : Claim7 := { stood := { row := tickHoldsUptoRow, standIns := [], harness := (true, "1b80b77e0791ce9edd616526429bdc134f5fd8b6e722d6cf5ce77405b9ace0a4"), looks := true }, kinds := [], alts := [], laidByText := true, laidKinds := [.data, .data, .data, .sentinel, .sentinel], laidTests := true, laidLooks := .later }
def TickHoldsUptoCardSaid : Prop := Claim7.holds Tryd.pinned (.plain (OpenSpec.upto tickHoldsSpec)) tickHoldsUptoCard

/-- THE SECOND FORM's CARD OF 'cubbyholelaw05.ControlTexts'. -/
def controlTextsUptoCard : Claim7 := { stood := { row := controlTextsUptoRow, standIns := [], harness := (true, "1b80b77e0791ce9edd616526429bdc134f5fd8b6e722d6cf5ce77405b9ace0a4"), looks := true }, kinds := [], alts := [], laidByText := true, laidKinds := [.data, .data, .data], laidTests := true, laidLooks := .later }
def ControlTextsUptoCardSaid : Prop := Claim7.holds Tryd.pinned (.plain (OpenSpec.upto controlTextsSpec)) controlTextsUptoCard

/-- THE SECOND FORM's CARD OF 'cubbyholelaw04.EntryTexts'. -/
def entryTextsUptoCard : Claim7 := { stood := { row := entryTextsUptoRow, standIns := [], harness := (true, "1b80b77e0791ce9edd616526429bdc134f5fd8b6e722d6cf5ce77405b9ace0a4"), looks := true }, kinds := [], alts := [], laidByText := true, laidKinds := [.data, .data, .data, .sentinel, .sentinel, .data], laidTests := true, laidLooks := .later }
def EntryTextsUptoCardSaid : Prop := Claim7.holds Tryd.pinned (.plain (OpenSpec.upto entryTextsSpec)) entryTextsUptoCard
end Rows
end Go.Proofs.YtcbekibofgcoaaaDoor
