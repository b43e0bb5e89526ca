/-
  DERIVED. GIVEN WITH THE SEED: THE CARDS: each row of YtjkjcmhlbimeaaaDoorRows.lean that lists a variable, with what it lists TIED to the program's text (the seventh form; the later family's looks); each row that meets fmt, with fmt's text TOLD by the authors' own Lean function (tested against real Go, not proved from fmt's source: count such statements apart). THE CARD IS WHAT COUNTS. Prove the row's statement (the work); the ties are given (YtjkjcmhlbimeaaaDoorTie.lean); close each card by the builder's one call (the guide's Derived/Test/ToyasCard.lean, 'card_holds'). Laid BY PROGRAM, IN A SANDBOX (cutbox-door.mjs). By AI agents, Wed Nov 11 2026. No macro, syntax, notation, axiom, sorry.
-/
import Derived.Test.YtjkjcmhlbimeaaaDoorRows
import GoSem.ClaimSeven
namespace Go.Proofs.YtjkjcmhlbimeaaaDoor
namespace Rows

/-- THE TIED CARD OF 'cubbyholelaw38.LoadMakes'. -/
def loadMakesCard : Claim7 := { stood := { row := loadMakesRow, standIns := [], harness := (true, "74eb2707b886aecb21290e6e0725d92849d05f361945f62f16ac1d91c9f6fd03"), looks := true }, kinds := [], alts := [], laidByText := true, laidKinds := [.data, .data, .data, .sentinel, .sentinel, .data], laidTests := true, laidLooks := .later }
def LoadMakesCardSaid : Prop := Claim7.holds Tryd.pinned (.plain (OpenSpec.ofChange loadMakesSpec)) loadMakesCard

/-- THE TIED CARD OF 'cubbyholelaw38.LoadCounts'. -/
def loadCountsCard : Claim7 := { stood := { row := loadCountsRow, standIns := [], harness := (true, "74eb2707b886aecb21290e6e0725d92849d05f361945f62f16ac1d91c9f6fd03"), looks := true }, kinds := [], alts := [], laidByText := true, laidKinds := [.data, .data, .data, .sentinel, .sentinel, .data], laidTests := true, laidLooks := .later }
def LoadCountsCardSaid : Prop := Claim7.holds Tryd.pinned (.plain (OpenSpec.ofChange loadCountsSpec)) loadCountsCard

/-- THE TIED CARD OF 'cubbyholelaw38.LoadTexts'. -/
def loadTextsCard : Claim7 := { stood := { row := loadTextsRow, standIns := [], harness := (true, "74eb2707b886aecb21290e6e0725d92849d05f361945f62f16ac1d91c9f6fd03"), looks := true }, kinds := [], alts := [], laidByText := true, laidKinds := [.data, .data, .data, .sentinel, .sentinel, .data], laidTests := true, laidLooks := .later }
def LoadTextsCardSaid : Prop := Claim7.holds Tryd.pinned (.plain (OpenSpec.ofChange loadTextsSpec)) loadTextsCard

/-- THE TIED CARD OF 'cubbyholelaw38.LoadHolds'. -/
def loadHoldsCard : Claim7 := { stood := { row := loadHoldsRow, standIns := [], harness := (true, "74eb2707b886aecb21290e6e0725d92849d05f361945f62f16ac1d91c9f6fd03"), looks := true }, kinds := [], alts := [], laidByText := true, laidKinds := [.data, .data, .data, .sentinel, .sentinel, .data], laidTests := true, laidLooks := .later }
def LoadHoldsCardSaid : Prop := Claim7.holds Tryd.pinned (.plain (OpenSpec.ofChange loadHoldsSpec)) loadHoldsCard

/-- THE TIED CARD OF 'cubbyholelaw52.ReportCounts'. -/
def reportCountsCard : Claim7 := { stood := { row := reportCountsRow, standIns := [], harness := (true, "74eb2707b886aecb21290e6e0725d92849d05f361945f62f16ac1d91c9f6fd03"), looks := true }, kinds := [], alts := [], laidByText := true, laidKinds := [.data, .data, .data, .sentinel, .sentinel, .data, .data, .data], laidTests := true, laidLooks := .later }
def ReportCountsCardSaid : Prop := Claim7.holds Tryd.pinned (.plain (OpenSpec.ofChange reportCountsSpec)) reportCountsCard

/-- THE TIED CARD OF 'cubbyholelaw52.ReportTexts'. -/
def reportTextsCard : Claim7 := { stood := { row := reportTextsRow, standIns := [], harness := (true, "74eb2707b886aecb21290e6e0725d92849d05f361945f62f16ac1d91c9f6fd03"), looks := true }, kinds := [], alts := [], laidByText := true, laidKinds := [.data, .data, .data, .sentinel, .sentinel, .data, .data, .data], laidTests := true, laidLooks := .later }
def ReportTextsCardSaid : Prop := Claim7.holds Tryd.pinned (.plain (OpenSpec.ofChange reportTextsSpec)) reportTextsCard

/-- THE TIED CARD OF 'cubbyholelaw52.ReportChecks'. -/
def reportChecksCard : Claim7 := { stood := { row := reportChecksRow, standIns := [], harness := (true, "74eb2707b886aecb21290e6e0725d92849d05f361945f62f16ac1d91c9f6fd03"), looks := true }, kinds := [], alts := [], laidByText := true, laidKinds := [.data, .data, .data, .sentinel, .sentinel, .data, .data, .data], laidTests := true, laidLooks := .later }
def ReportChecksCardSaid : Prop := Claim7.holds Tryd.pinned (.plain (OpenSpec.ofChange reportChecksSpec)) reportChecksCard

/-- THE TIED CARD OF 'cubbyholelaw52.ReportHolds'. -/
def reportHoldsCard : Claim7 := { stood := { row := reportHoldsRow, standIns := [], harness := (true, "74eb2707b886aecb21290e6e0725d92849d05f361945f62f16ac1d91c9f6fd03"), looks := true }, kinds := [], alts := [], laidByText := true, laidKinds := [.data, .data, .data, .sentinel, .sentinel, .data, .data, .data], laidTests := true, laidLooks := .later }
def ReportHoldsCardSaid : Prop := Claim7.holds Tryd.pinned (.plain (OpenSpec.ofChange reportHoldsSpec)) reportHoldsCard

/-- THE TIED CARD OF 'cubbyholelaw03.TickTexts'. -/
def tickTextsCard : Claim7 := { stood := { row := tickTextsRow, standIns := [], harness := (true, "74eb2707b886aecb21290e6e0725d92849d05f361945f62f16ac1d91c9f6fd03"), looks := true }, kinds := [], alts := [], laidByText := true, laidKinds := [.data, .data, .data, .sentinel, .sentinel], laidTests := true, laidLooks := .later }
def TickTextsCardSaid : Prop := Claim7.holds Tryd.pinned (.plain (OpenSpec.ofChange tickTextsSpec)) tickTextsCard

/-- THE SECOND FORM's CARD OF 'cubbyholelaw38.LoadMakes'. -/
def loadMakesUptoCard : Claim7 := { stood := { row := loadMakesUptoRow, standIns := [], harness := (true, "74eb2707b886aecb21290e6e0725d92849d05f361945f62f16ac1d91c9f6fd03"), looks := true }, kinds := [], alts := [], laidByText := true, laidKinds := [.data, .data, .data, .sentinel, .sentinel, .data], laidTests := true, laidLooks := .later }
def LoadMakesUptoCardSaid : Prop := Claim7.holds Tryd.pinned (.plain (OpenSpec.upto loadMakesSpec)) loadMakesUptoCard

/-- THE SECOND FORM's CARD OF 'cubbyholelaw38.LoadCounts'. -/
def loadCountsUptoCard : Claim7 := { stood := { row := loadCountsUptoRow, standIns := [], harness := (true, "74eb2707b886aecb21290e6e0725d92849d05f361945f62f16ac1d91c9f6fd03"), looks := true }, kinds := [], alts := [], laidByText := true, laidKinds := [.data, .data, .data, .sentinel, .sentinel, .data], laidTests := true, laidLooks := .later }
def LoadCountsUptoCardSaid : Prop := Claim7.holds Tryd.pinned (.plain (OpenSpec.upto loadCountsSpec)) loadCountsUptoCard

/-- THE SECOND FORM's CARD OF 'cubbyholelaw38.LoadTexts'. -/
def loadTextsUptoCard : Claim7 := { stood := { row := loadTextsUptoRow, standIns := [], harness := (true, "74eb2707b886aecb21290e6e0725d92849d05f361945f62f16ac1d91c9f6fd03"), looks := true }, kinds := [], alts := [], laidByText := true, laidKinds := [.data, .data, .data, .sentinel, .sentinel, .data], laidTests := true, laidLooks := .later }
def LoadTextsUptoCardSaid : Prop := Claim7.holds Tryd.pinned (.plain (OpenSpec.upto loadTextsSpec)) loadTextsUptoCard

/-- THE SECOND FORM's CARD OF 'cubbyholelaw38.LoadHolds'. -/
def loadHoldsUptoCard : Claim7 := { stood := { row := loadHoldsUptoRow, standIns := [], harness := (true, "74eb2707b886aecb21290e6e0725d92849d05f361945f62f16ac1d91c9f6fd03"), looks := true }, kinds := [], alts := [], laidByText := true, laidKinds := [.data, .data, .data, .sentinel, .sentinel, .data], laidTests := true, laidLooks := .later }
def LoadHoldsUptoCardSaid : Prop := Claim7.holds Tryd.pinned (.plain (OpenSpec.upto loadHoldsSpec)) loadHoldsUptoCard

/-- THE SECOND FORM's CARD OF 'cubbyholelaw52.ReportCounts'. -/
def reportCountsUptoCard : Claim7 := { stood := { row := reportCountsUptoRow, standIns := [], harness := (true, "74eb2707b886aecb21290e6e0725d92849d05f361945f62f16ac1d91c9f6fd03"), looks := true }, kinds := [], alts := [], laidByText := true, laidKinds := [.data, .data, .data, .sentinel, .sentinel, .data, .data, .data], laidTests := true, laidLooks := .later }
def ReportCountsUptoCardSaid : Prop := Claim7.holds Tryd.pinned (.plain (OpenSpec.upto reportCountsSpec)) reportCountsUptoCard

/-- THE SECOND FORM's CARD OF 'cubbyholelaw52.ReportTexts'. -/
def reportTextsUptoCard : Claim7 := { stood := { row := reportTextsUptoRow, standIns := [], harness := (true, "74eb2707b886aecb21290e6e0725d92849d05f361945f62f16ac1d91c9f6fd03"), looks := true }, kinds := [], alts := [], laidByText := true, laidKinds := [.data, .data, .data, .sentinel, .sentinel, .data, .data, .data], laidTests := true, laidLooks := .later }
def ReportTextsUptoCardSaid : Prop := Claim7.holds Tryd.pinned (.plain (OpenSpec.upto reportTextsSpec)) reportTextsUptoCard

/-- THE SECOND FORM's CARD OF 'cubbyholelaw52.ReportChecks'. -/
def reportChecksUptoCard : Claim7 := { stood := { row := reportChecksUptoRow, standIns := [], harness := (true, "74eb2707b886aecb21290e6e0725d92849d05f361945f62f16ac1d91c9f6fd03"), looks := true }, kinds := [], alts := [], laidByText := true, laidKinds := [.data, .data, .data, .sentinel, .sentinel, .data, .data, .data], laidTests := true, laidLooks := .later }
def ReportChecksUptoCardSaid : Prop := Claim7.holds Tryd.pinned (.plain (OpenSpec.upto reportChecksSpec)) reportChecksUptoCard

/-- THE SECOND FORM's CARD OF 'cubbyholelaw52.ReportHolds'. -/
def reportHoldsUptoCard : Claim7 := { stood := { row := reportHoldsUptoRow, standIns := [], harness := (true, "74eb2707b886aecb21290e6e0725d92849d05f361945f62f16ac1d91c9f6fd03"), looks := true }, kinds := [], alts := [], laidByText := true, laidKinds := [.data, .data, .data, .sentinel, .sentinel, .data, .data, .data], laidTests := true, laidLooks := .later }
def ReportHoldsUptoCardSaid : Prop := Claim7.holds Tryd.pinned (.plain (OpenSpec.upto reportHoldsSpec)) reportHoldsUptoCard

/-- THE SECOND FORM's CARD OF 'cubbyholelaw03.TickTexts'. -/
def tickTextsUptoCard : Claim7 := { stood := { row := tickTextsUptoRow, standIns := [], harness := (true, "74eb2707b886aecb21290e6e0725d92849d05f361945f62f16ac1d91c9f6fd03"), looks := true }, kinds := [], alts := [], laidByText := true, laidKinds := [.data, .data, .data, .sentinel, .sentinel], laidTests := true, laidLooks := .later }
def TickTextsUptoCardSaid : Prop := Claim7.holds Tryd.pinned (.plain (OpenSpec.upto tickTextsSpec)) tickTextsUptoCard
end Rows
end Go.Proofs.YtjkjcmhlbimeaaaDoor
