/-
  DERIVED. GIVEN WITH THE SEED: THE CARDS: each row of YtgdpfnmmhpcleaaDoorRows.lean that lists a variable, with what it lists TIED to the program's text (the seventh form; the later family's looks); each row that meets fmt, with fmt's text TOLD by the authors' own Lean function (tested against real Go, not proved from fmt's source: count such statements apart). THE CARD IS WHAT COUNTS. Prove the row's statement (the work); the ties are given (YtgdpfnmmhpcleaaDoorTie.lean); close each card by the builder's one call (the guide's Derived/Test/ToyasCard.lean, 'card_holds'). Laid BY PROGRAM, IN A SANDBOX (cutbox-door.mjs). By AI agents, Wed Nov 11 2026. No macro, syntax, notation, axiom, sorry.
-/
import Derived.Test.YtgdpfnmmhpcleaaDoorRows
import GoSem.ClaimSeven
namespace Go.Proofs.YtgdpfnmmhpcleaaDoor
namespace Rows

/-- THE TIED CARD OF 'cubbyholelaw05.ControlLooks'. -/
def controlLooksCard : Claim7 := { stood := { row := controlLooksRow, standIns := [], harness := (true, "b35991c87aa6dcef8c5a1aa721275c6ca37e1d8ef6b6815cb7de330e8f5c879c"), looks := true }, kinds := [], alts := [], laidByText := true, laidKinds := [.data, .data, .data], laidTests := true, laidLooks := .later }
def ControlLooksCardSaid : Prop := Claim7.holds Tryd.pinned (.plain (OpenSpec.ofChange controlLooksSpec)) controlLooksCard

/-- THE TIED CARD OF 'cubbyholelaw05.ControlSets'. -/
def controlSetsCard : Claim7 := { stood := { row := controlSetsRow, standIns := [], harness := (true, "b35991c87aa6dcef8c5a1aa721275c6ca37e1d8ef6b6815cb7de330e8f5c879c"), looks := true }, kinds := [], alts := [], laidByText := true, laidKinds := [.data, .data, .data], laidTests := true, laidLooks := .later }
def ControlSetsCardSaid : Prop := Claim7.holds Tryd.pinned (.plain (OpenSpec.ofChange controlSetsSpec)) controlSetsCard

/-- THE TIED CARD OF 'cubbyholelaw05.ControlErases'. -/
def controlErasesCard : Claim7 := { stood := { row := controlErasesRow, standIns := [], harness := (true, "b35991c87aa6dcef8c5a1aa721275c6ca37e1d8ef6b6815cb7de330e8f5c879c"), looks := true }, kinds := [], alts := [], laidByText := true, laidKinds := [.data, .data, .data], laidTests := true, laidLooks := .later }
def ControlErasesCardSaid : Prop := Claim7.holds Tryd.pinned (.plain (OpenSpec.ofChange controlErasesSpec)) controlErasesCard

/-- THE TIED CARD OF 'cubbyholelaw05.ControlHolds'. -/
def controlHoldsCard : Claim7 := { stood := { row := controlHoldsRow, standIns := [], harness := (true, "b35991c87aa6dcef8c5a1aa721275c6ca37e1d8ef6b6815cb7de330e8f5c879c"), looks := true }, kinds := [], alts := [], laidByText := true, laidKinds := [.data, .data, .data], laidTests := true, laidLooks := .later }
def ControlHoldsCardSaid : Prop := Claim7.holds Tryd.pinned (.plain (OpenSpec.ofChange controlHoldsSpec)) controlHoldsCard

/-- THE TIED CARD OF 'cubbyholelaw04.EntryCosts'. -/
def entryCostsCard : Claim7 := { stood := { row := entryCostsRow, standIns := [], harness := (true, "b35991c87aa6dcef8c5a1aa721275c6ca37e1d8ef6b6815cb7de330e8f5c879c"), looks := true }, kinds := [], alts := [], laidByText := true, laidKinds := [.data, .data, .data, .sentinel, .sentinel, .data], laidTests := true, laidLooks := .later }
def EntryCostsCardSaid : Prop := Claim7.holds Tryd.pinned (.plain (OpenSpec.ofChange entryCostsSpec)) entryCostsCard

/-- THE TIED CARD OF 'cubbyholelaw04.EntryMakes'. -/
def entryMakesCard : Claim7 := { stood := { row := entryMakesRow, standIns := [], harness := (true, "b35991c87aa6dcef8c5a1aa721275c6ca37e1d8ef6b6815cb7de330e8f5c879c"), looks := true }, kinds := [], alts := [], laidByText := true, laidKinds := [.data, .data, .data, .sentinel, .sentinel, .data], laidTests := true, laidLooks := .later }
def EntryMakesCardSaid : Prop := Claim7.holds Tryd.pinned (.plain (OpenSpec.ofChange entryMakesSpec)) entryMakesCard

/-- THE TIED CARD OF 'cubbyholelaw04.EntryOrders'. -/
def entryOrdersCard : Claim7 := { stood := { row := entryOrdersRow, standIns := [], harness := (true, "b35991c87aa6dcef8c5a1aa721275c6ca37e1d8ef6b6815cb7de330e8f5c879c"), looks := true }, kinds := [], alts := [], laidByText := true, laidKinds := [.data, .data, .data, .sentinel, .sentinel, .data], laidTests := true, laidLooks := .later }
def EntryOrdersCardSaid : Prop := Claim7.holds Tryd.pinned (.plain (OpenSpec.ofChange entryOrdersSpec)) entryOrdersCard

/-- THE TIED CARD OF 'cubbyholelaw23.ConfigResizes'. -/
def configResizesCard : Claim7 := { stood := { row := configResizesRow, standIns := [], harness := (true, "b35991c87aa6dcef8c5a1aa721275c6ca37e1d8ef6b6815cb7de330e8f5c879c"), looks := true }, kinds := [], alts := [], laidByText := true, laidKinds := [.data, .data, .data, .sentinel, .sentinel, .data], laidTests := true, laidLooks := .later }
def ConfigResizesCardSaid : Prop := Claim7.holds Tryd.pinned (.plain (OpenSpec.ofChange configResizesSpec)) configResizesCard

/-- THE TIED CARD OF 'cubbyholelaw23.ConfigChecks'. -/
def configChecksCard : Claim7 := { stood := { row := configChecksRow, standIns := [], harness := (true, "b35991c87aa6dcef8c5a1aa721275c6ca37e1d8ef6b6815cb7de330e8f5c879c"), looks := true }, kinds := [], alts := [], laidByText := true, laidKinds := [.data, .data, .data, .sentinel, .sentinel, .data], laidTests := true, laidLooks := .later }
def ConfigChecksCardSaid : Prop := Claim7.holds Tryd.pinned (.plain (OpenSpec.ofChange configChecksSpec)) configChecksCard

/-- THE TIED CARD OF 'cubbyholelaw38.LoadNumbers'. -/
def loadNumbersCard : Claim7 := { stood := { row := loadNumbersRow, standIns := [], harness := (true, "b35991c87aa6dcef8c5a1aa721275c6ca37e1d8ef6b6815cb7de330e8f5c879c"), looks := true }, kinds := [], alts := [], laidByText := true, laidKinds := [.data, .data, .data, .sentinel, .sentinel, .data], laidTests := true, laidLooks := .later }
def LoadNumbersCardSaid : Prop := Claim7.holds Tryd.pinned (.plain (OpenSpec.ofChange loadNumbersSpec)) loadNumbersCard

/-- THE TIED CARD OF 'cubbyholelaw52.ReportRatios'. -/
def reportRatiosCard : Claim7 := { stood := { row := reportRatiosRow, standIns := [], harness := (true, "b35991c87aa6dcef8c5a1aa721275c6ca37e1d8ef6b6815cb7de330e8f5c879c"), looks := true }, kinds := [], alts := [], laidByText := true, laidKinds := [.data, .data, .data, .sentinel, .sentinel, .data, .data, .data], laidTests := true, laidLooks := .later }
def ReportRatiosCardSaid : Prop := Claim7.holds Tryd.pinned (.plain (OpenSpec.ofChange reportRatiosSpec)) reportRatiosCard

/-- THE TIED CARD OF 'cubbyholelaw03.TickHolds'. -/
def tickHoldsCard : Claim7 := { stood := { row := tickHoldsRow, standIns := [], harness := (true, "b35991c87aa6dcef8c5a1aa721275c6ca37e1d8ef6b6815cb7de330e8f5c879c"), looks := true }, kinds := [], alts := [], laidByText := true, laidKinds := [.data, .data, .data, .sentinel, .sentinel], laidTests := true, laidLooks := .later }
def TickHoldsCardSaid : Prop := Claim7.holds Tryd.pinned (.plain (OpenSpec.ofChange tickHoldsSpec)) tickHoldsCard

/-- THE SECOND FORM's CARD OF 'cubbyholelaw05.ControlLooks'. -/
def controlLooksUptoCard : Claim7 := { stood := { row := controlLooksUptoRow, standIns := [], harness := (true, "b35991c87aa6dcef8c5a1aa721275c6ca37e1d8ef6b6815cb7de330e8f5c879c"), looks := true }, kinds := [], alts := [], laidByText := true, laidKinds := [.data, .data, .data], laidTests := true, laidLooks := .later }
def ControlLooksUptoCardSaid : Prop := Claim7.holds Tryd.pinned (.plain (OpenSpec.upto controlLooksSpec)) controlLooksUptoCard

/-- THE SECOND FORM's CARD OF 'cubbyholelaw05.ControlSets'. -/
def controlSetsUptoCard : Claim7 := { stood := { row := controlSetsUptoRow, standIns := [], harness := (true, "b35991c87aa6dcef8c5a1aa721275c6ca37e1d8ef6b6815cb7de330e8f5c879c"), looks := true }, kinds := [], alts := [], laidByText := true, laidKinds := [.data, .data, .data], laidTests := true, laidLooks := .later }
def ControlSetsUptoCardSaid : Prop := Claim7.holds Tryd.pinned (.plain (OpenSpec.upto controlSetsSpec)) controlSetsUptoCard

/-- THE SECOND FORM's CARD OF 'cubbyholelaw05.ControlErases'. -/
def controlErasesUptoCard : Claim7 := { stood := { row := controlErasesUptoRow, standIns := [], harness := (true, "b35991c87aa6dcef8c5a1aa721275c6ca37e1d8ef6b6815cb7de330e8f5c879c"), looks := true }, kinds := [], alts := [], laidByText := true, laidKinds := [.data, .data, .data], laidTests := true, laidLooks := .later }
def ControlErasesUptoCardSaid : Prop := Claim7.holds Tryd.pinned (.plain (OpenSpec.upto controlErasesSpec)) controlErasesUptoCard

/-- THE SECOND FORM's CARD OF 'cubbyholelaw05.ControlHolds'. -/
def controlHoldsUptoCard : Claim7 := { stood := { row := controlHoldsUptoRow, standIns := [], harness := (true, "b35991c87aa6dcef8c5a1aa721275c6ca37e1d8ef6b6815cb7de330e8f5c879c"), looks := true }, kinds := [], alts := [], laidByText := true, laidKinds := [.data, .data, .data], laidTests := true, laidLooks := .later }
def ControlHoldsUptoCardSaid : Prop := Claim7.holds Tryd.pinned (.plain (OpenSpec.upto controlHoldsSpec)) controlHoldsUptoCard

/-- THE SECOND FORM's CARD OF 'cubbyholelaw04.EntryCosts'. -/
def entryCostsUptoCard : Claim7 := { stood := { row := entryCostsUptoRow, standIns := [], harness := (true, "b35991c87aa6dcef8c5a1aa721275c6ca37e1d8ef6b6815cb7de330e8f5c879c"), looks := true }, kinds := [], alts := [], laidByText := true, laidKinds := [.data, .data, .data, .sentinel, .sentinel, .data], laidTests := true, laidLooks := .later }
def EntryCostsUptoCardSaid : Prop := Claim7.holds Tryd.pinned (.plain (OpenSpec.upto entryCostsSpec)) entryCostsUptoCard

/-- THE SECOND FORM's CARD OF 'cubbyholelaw04.EntryMakes'. -/
def entryMakesUptoCard : Claim7 := { stood := { row := entryMakesUptoRow, standIns := [], harness := (true, "b35991c87aa6dcef8c5a1aa721275c6ca37e1d8ef6b6815cb7de330e8f5c879c"), looks := true }, kinds := [], alts := [], laidByText := true, laidKinds := [.data, .data, .data, .sentinel, .sentinel, .data], laidTests := true, laidLooks := .later }
def EntryMakesUptoCardSaid : Prop := Claim7.holds Tryd.pinned (.plain (OpenSpec.upto entryMakesSpec)) entryMakesUptoCard

/-- THE SECOND FORM's CARD OF 'cubbyholelaw04.EntryOrders'. -/
def entryOrdersUptoCard : Claim7 := { stood := { row := entryOrdersUptoRow, standIns := [], harness := (true, "b35991c87aa6dcef8c5a1aa721275c6ca37e1d8ef6b6815cb7de330e8f5c879c"), looks := true }, kinds := [], alts := [], laidByText := true, laidKinds := [.data, .data, .data, .sentinel, .sentinel, .data], laidTests := true, laidLooks := .later }
def EntryOrdersUptoCardSaid : Prop := Claim7.holds Tryd.pinned (.plain (OpenSpec.upto entryOrdersSpec)) entryOrdersUptoCard

/-- THE SECOND FORM's CARD OF 'cubbyholelaw23.ConfigResizes'. -/
def configResizesUptoCard : Claim7 := { stood := { row := configResizesUptoRow, standIns := [], harness := (true, "b35991c87aa6dcef8c5a1aa721275c6ca37e1d8ef6b6815cb7de330e8f5c879c"), looks := true }, kinds := [], alts := [], laidByText := true, laidKinds := [.data, .data, .data, .sentinel, .sentinel, .data], laidTests := true, laidLooks := .later }
def ConfigResizesUptoCardSaid : Prop := Claim7.holds Tryd.pinned (.plain (OpenSpec.upto configResizesSpec)) configResizesUptoCard

/-- THE SECOND FORM's CARD OF 'cubbyholelaw23.ConfigChecks'. -/
def configChecksUptoCard : Claim7 := { stood := { row := configChecksUptoRow, standIns := [], harness := (true, "b35991c87aa6dcef8c5a1aa721275c6ca37e1d8ef6b6815cb7de330e8f5c879c"), looks := true }, kinds := [], alts := [], laidByText := true, laidKinds := [.data, .data, .data, .sentinel, .sentinel, .data], laidTests := true, laidLooks := .later }
def ConfigChecksUptoCardSaid : Prop := Claim7.holds Tryd.pinned (.plain (OpenSpec.upto configChecksSpec)) configChecksUptoCard

/-- THE SECOND FORM's CARD OF 'cubbyholelaw38.LoadNumbers'. -/
def loadNumbersUptoCard : Claim7 := { stood := { row := loadNumbersUptoRow, standIns := [], harness := (true, "b35991c87aa6dcef8c5a1aa721275c6ca37e1d8ef6b6815cb7de330e8f5c879c"), looks := true }, kinds := [], alts := [], laidByText := true, laidKinds := [.data, .data, .data, .sentinel, .sentinel, .data], laidTests := true, laidLooks := .later }
def LoadNumbersUptoCardSaid : Prop := Claim7.holds Tryd.pinned (.plain (OpenSpec.upto loadNumbersSpec)) loadNumbersUptoCard

/-- THE SECOND FORM's CARD OF 'cubbyholelaw52.ReportRatios'. -/
def reportRatiosUptoCard : Claim7 := { stood := { row := reportRatiosUptoRow, standIns := [], harness := (true, "b35991c87aa6dcef8c5a1aa721275c6ca37e1d8ef6b6815cb7de330e8f5c879c"), looks := true }, kinds := [], alts := [], laidByText := true, laidKinds := [.data, .data, .data, .sentinel, .sentinel, .data, .data, .data], laidTests := true, laidLooks := .later }
def ReportRatiosUptoCardSaid : Prop := Claim7.holds Tryd.pinned (.plain (OpenSpec.upto reportRatiosSpec)) reportRatiosUptoCard

/-- THE SECOND FORM's CARD OF 'cubbyholelaw03.TickHolds'. -/
def tickHoldsUptoCard : Claim7 := { stood := { row := tickHoldsUptoRow, standIns := [], harness := (true, "b35991c87aa6dcef8c5a1aa721275c6ca37e1d8ef6b6815cb7de330e8f5c879c"), looks := true }, kinds := [], alts := [], laidByText := true, laidKinds := [.data, .data, .data, .sentinel, .sentinel], laidTests := true, laidLooks := .later }
def TickHoldsUptoCardSaid : Prop := Claim7.holds Tryd.pinned (.plain (OpenSpec.upto tickHoldsSpec)) tickHoldsUptoCard
end Rows
end Go.Proofs.YtgdpfnmmhpcleaaDoor
