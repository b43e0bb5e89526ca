/-
  DERIVED. GIVEN WITH THE SEED: THE CARDS: each row of YtahihfhfkjiimaaDoorRows.lean that lists a variable, with what it lists TIED to the program's text (the seventh form; the later family's looks); each row that meets fmt, with fmt's text TOLD by the authors' own Lean function (tested against real Go, not proved from fmt's source: count such statements apart). THE CARD IS WHAT COUNTS. Prove the row's statement (the work); the ties are given (YtahihfhfkjiimaaDoorTie.lean); close each card by the builder's one call (the guide's Derived/Test/ToyasCard.lean, 'card_holds'). Laid BY PROGRAM, IN A SANDBOX (cutbox-door.mjs). By AI agents, Wed Nov 11 2026. No macro, syntax, notation, axiom, sorry.
-/
import Derived.Test.YtahihfhfkjiimaaDoorRows
import GoSem.ClaimSeven
namespace Go.Proofs.YtahihfhfkjiimaaDoor
namespace Rows

/-- THE TIED CARD OF 'cubbyholelaw03.TickSums'. -/
def tickSumsCard : Claim7 := { stood := { row := tickSumsRow, standIns := [], harness := (true, "5e6d6eba42dbc72adc8b123a6082b27eb6be7ef91242267d471dfdc444c56997"), looks := true }, kinds := [], alts := [], laidByText := true, laidKinds := [.data, .data, .data, .sentinel, .sentinel], laidTests := true, laidLooks := .later }
def TickSumsCardSaid : Prop := Claim7.holds Tryd.pinned (.plain (OpenSpec.ofChange tickSumsSpec)) tickSumsCard

/-- THE TIED CARD OF 'cubbyholelaw03.TickDues'. -/
def tickDuesCard : Claim7 := { stood := { row := tickDuesRow, standIns := [], harness := (true, "5e6d6eba42dbc72adc8b123a6082b27eb6be7ef91242267d471dfdc444c56997"), looks := true }, kinds := [], alts := [], laidByText := true, laidKinds := [.data, .data, .data, .sentinel, .sentinel], laidTests := true, laidLooks := .later }
def TickDuesCardSaid : Prop := Claim7.holds Tryd.pinned (.plain (OpenSpec.ofChange tickDuesSpec)) tickDuesCard

/-- THE TIED CARD OF 'cubbyholelaw03.TickDigits'. -/
def tickDigitsCard : Claim7 := { stood := { row := tickDigitsRow, standIns := [], harness := (true, "5e6d6eba42dbc72adc8b123a6082b27eb6be7ef91242267d471dfdc444c56997"), looks := true }, kinds := [], alts := [], laidByText := true, laidKinds := [.data, .data, .data, .sentinel, .sentinel], laidTests := true, laidLooks := .later }
def TickDigitsCardSaid : Prop := Claim7.holds Tryd.pinned (.plain (OpenSpec.ofChange tickDigitsSpec)) tickDigitsCard

/-- THE TIED CARD OF 'cubbyholelaw03.TickTexts'. -/
def tickTextsCard : Claim7 := { stood := { row := tickTextsRow, standIns := [], harness := (true, "5e6d6eba42dbc72adc8b123a6082b27eb6be7ef91242267d471dfdc444c56997"), looks := true }, kinds := [], alts := [], laidByText := true, laidKinds := [.data, .data, .data, .sentinel, .sentinel], laidTests := true, laidLooks := .later }
def TickTextsCardSaid : Prop := Claim7.holds Tryd.pinned (.plain (OpenSpec.ofChange tickTextsSpec)) tickTextsCard

/-- THE TIED CARD OF 'cubbyholelaw03.TickHolds'. -/
def tickHoldsCard : Claim7 := { stood := { row := tickHoldsRow, standIns := [], harness := (true, "5e6d6eba42dbc72adc8b123a6082b27eb6be7ef91242267d471dfdc444c56997"), looks := true }, kinds := [], alts := [], laidByText := true, laidKinds := [.data, .data, .data, .sentinel, .sentinel], laidTests := true, laidLooks := .later }
def TickHoldsCardSaid : Prop := Claim7.holds Tryd.pinned (.plain (OpenSpec.ofChange tickHoldsSpec)) tickHoldsCard

/-- THE TIED CARD OF 'cubbyholelaw05.ControlLooks'. -/
def controlLooksCard : Claim7 := { stood := { row := controlLooksRow, standIns := [], harness := (true, "5e6d6eba42dbc72adc8b123a6082b27eb6be7ef91242267d471dfdc444c56997"), looks := true }, kinds := [], alts := [], laidByText := true, laidKinds := [.data, .data, .data], laidTests := true, laidLooks := .later }
def ControlLooksCardSaid : Prop := Claim7.holds Tryd.pinned (.plain (OpenSpec.ofChange controlLooksSpec)) controlLooksCard

/-- THE TIED CARD OF 'cubbyholelaw05.ControlSets'. -/
def controlSetsCard : Claim7 := { stood := { row := controlSetsRow, standIns := [], harness := (true, "5e6d6eba42dbc72adc8b123a6082b27eb6be7ef91242267d471dfdc444c56997"), looks := true }, kinds := [], alts := [], laidByText := true, laidKinds := [.data, .data, .data], laidTests := true, laidLooks := .later }
def ControlSetsCardSaid : Prop := Claim7.holds Tryd.pinned (.plain (OpenSpec.ofChange controlSetsSpec)) controlSetsCard

/-- THE TIED CARD OF 'cubbyholelaw05.ControlErases'. -/
def controlErasesCard : Claim7 := { stood := { row := controlErasesRow, standIns := [], harness := (true, "5e6d6eba42dbc72adc8b123a6082b27eb6be7ef91242267d471dfdc444c56997"), looks := true }, kinds := [], alts := [], laidByText := true, laidKinds := [.data, .data, .data], laidTests := true, laidLooks := .later }
def ControlErasesCardSaid : Prop := Claim7.holds Tryd.pinned (.plain (OpenSpec.ofChange controlErasesSpec)) controlErasesCard

/-- THE TIED CARD OF 'cubbyholelaw05.ControlTexts'. -/
def controlTextsCard : Claim7 := { stood := { row := controlTextsRow, standIns := [], harness := (true, "5e6d6eba42dbc72adc8b123a6082b27eb6be7ef91242267d471dfdc444c56997"), looks := true }, kinds := [], alts := [], laidByText := true, laidKinds := [.data, .data, .data], laidTests := true, laidLooks := .later }
def ControlTextsCardSaid : Prop := Claim7.holds Tryd.pinned (.plain (OpenSpec.ofChange controlTextsSpec)) controlTextsCard

/-- THE TIED CARD OF 'cubbyholelaw05.ControlHolds'. -/
def controlHoldsCard : Claim7 := { stood := { row := controlHoldsRow, standIns := [], harness := (true, "5e6d6eba42dbc72adc8b123a6082b27eb6be7ef91242267d471dfdc444c56997"), looks := true }, kinds := [], alts := [], laidByText := true, laidKinds := [.data, .data, .data], laidTests := true, laidLooks := .later }
def ControlHoldsCardSaid : Prop := Claim7.holds Tryd.pinned (.plain (OpenSpec.ofChange controlHoldsSpec)) controlHoldsCard

/-- THE SECOND FORM's CARD OF 'cubbyholelaw03.TickSums'. -/
def tickSumsUptoCard : Claim7 := { stood := { row := tickSumsUptoRow, standIns := [], harness := (true, "5e6d6eba42dbc72adc8b123a6082b27eb6be7ef91242267d471dfdc444c56997"), looks := true }, kinds := [], alts := [], laidByText := true, laidKinds := [.data, .data, .data, .sentinel, .sentinel], laidTests := true, laidLooks := .later }
def TickSumsUptoCardSaid : Prop := Claim7.holds Tryd.pinned (.plain (OpenSpec.upto tickSumsSpec)) tickSumsUptoCard

/-- THE SECOND FORM's CARD OF 'cubbyholelaw03.TickDues'. -/
def tickDuesUptoCard : Claim7 := { stood := { row := tickDuesUptoRow, standIns := [], harness := (true, "5e6d6eba42dbc72adc8b123a6082b27eb6be7ef91242267d471dfdc444c56997"), looks := true }, kinds := [], alts := [], laidByText := true, laidKinds := [.data, .data, .data, .sentinel, .sentinel], laidTests := true, laidLooks := .later }
def TickDuesUptoCardSaid : Prop := Claim7.holds Tryd.pinned (.plain (OpenSpec.upto tickDuesSpec)) tickDuesUptoCard

/-- THE SECOND FORM's CARD OF 'cubbyholelaw03.TickDigits'. -/
def tickDigitsUptoCard : Claim7 := { stood := { row := tickDigitsUptoRow, standIns := [], harness := (true, "5e6d6eba42dbc72adc8b123a6082b27eb6be7ef91242267d471dfdc444c56997"), looks := true }, kinds := [], alts := [], laidByText := true, laidKinds := [.data, .data, .data, .sentinel, .sentinel], laidTests := true, laidLooks := .later }
def TickDigitsUptoCardSaid : Prop := Claim7.holds Tryd.pinned (.plain (OpenSpec.upto tickDigitsSpec)) tickDigitsUptoCard

/-- THE SECOND FORM's CARD OF 'cubbyholelaw03.TickTexts'. -/
def tickTextsUptoCard : Claim7 := { stood := { row := tickTextsUptoRow, standIns := [], harness := (true, "5e6d6eba42dbc72adc8b123a6082b27eb6be7ef91242267d471dfdc444c56997"), looks := true }, kinds := [], alts := [], laidByText := true, laidKinds := [.data, .data, .data, .sentinel, .sentinel], laidTests := true, laidLooks := .later }
def TickTextsUptoCardSaid : Prop := Claim7.holds Tryd.pinned (.plain (OpenSpec.upto tickTextsSpec)) tickTextsUptoCard

/-- THE SECOND FORM's CARD OF 'cubbyholelaw03.TickHolds'. -/
def tickHoldsUptoCard : Claim7 := { stood := { row := tickHoldsUptoRow, standIns := [], harness := (true, "5e6d6eba42dbc72adc8b123a6082b27eb6be7ef91242267d471dfdc444c56997"), looks := true }, kinds := [], alts := [], laidByText := true, laidKinds := [.data, .data, .data, .sentinel, .sentinel], laidTests := true, laidLooks := .later }
def TickHoldsUptoCardSaid : Prop := Claim7.holds Tryd.pinned (.plain (OpenSpec.upto tickHoldsSpec)) tickHoldsUptoCard

/-- THE SECOND FORM's CARD OF 'cubbyholelaw05.ControlLooks'. -/
def controlLooksUptoCard : Claim7 := { stood := { row := controlLooksUptoRow, standIns := [], harness := (true, "5e6d6eba42dbc72adc8b123a6082b27eb6be7ef91242267d471dfdc444c56997"), looks := true }, kinds := [], alts := [], laidByText := true, laidKinds := [.data, .data, .data], laidTests := true, laidLooks := .later }
def ControlLooksUptoCardSaid : Prop := Claim7.holds Tryd.pinned (.plain (OpenSpec.upto controlLooksSpec)) controlLooksUptoCard

/-- THE SECOND FORM's CARD OF 'cubbyholelaw05.ControlSets'. -/
def controlSetsUptoCard : Claim7 := { stood := { row := controlSetsUptoRow, standIns := [], harness := (true, "5e6d6eba42dbc72adc8b123a6082b27eb6be7ef91242267d471dfdc444c56997"), looks := true }, kinds := [], alts := [], laidByText := true, laidKinds := [.data, .data, .data], laidTests := true, laidLooks := .later }
def ControlSetsUptoCardSaid : Prop := Claim7.holds Tryd.pinned (.plain (OpenSpec.upto controlSetsSpec)) controlSetsUptoCard

/-- THE SECOND FORM's CARD OF 'cubbyholelaw05.ControlErases'. -/
def controlErasesUptoCard : Claim7 := { stood := { row := controlErasesUptoRow, standIns := [], harness := (true, "5e6d6eba42dbc72adc8b123a6082b27eb6be7ef91242267d471dfdc444c56997"), looks := true }, kinds := [], alts := [], laidByText := true, laidKinds := [.data, .data, .data], laidTests := true, laidLooks := .later }
def ControlErasesUptoCardSaid : Prop := Claim7.holds Tryd.pinned (.plain (OpenSpec.upto controlErasesSpec)) controlErasesUptoCard

/-- THE SECOND FORM's CARD OF 'cubbyholelaw05.ControlTexts'. -/
def controlTextsUptoCard : Claim7 := { stood := { row := controlTextsUptoRow, standIns := [], harness := (true, "5e6d6eba42dbc72adc8b123a6082b27eb6be7ef91242267d471dfdc444c56997"), looks := true }, kinds := [], alts := [], laidByText := true, laidKinds := [.data, .data, .data], laidTests := true, laidLooks := .later }
def ControlTextsUptoCardSaid : Prop := Claim7.holds Tryd.pinned (.plain (OpenSpec.upto controlTextsSpec)) controlTextsUptoCard

/-- THE SECOND FORM's CARD OF 'cubbyholelaw05.ControlHolds'. -/
def controlHoldsUptoCard : Claim7 := { stood := { row := controlHoldsUptoRow, standIns := [], harness := (true, "5e6d6eba42dbc72adc8b123a6082b27eb6be7ef91242267d471dfdc444c56997"), looks := true }, kinds := [], alts := [], laidByText := true, laidKinds := [.data, .data, .data], laidTests := true, laidLooks := .later }
def ControlHoldsUptoCardSaid : Prop := Claim7.holds Tryd.pinned (.plain (OpenSpec.upto controlHoldsSpec)) controlHoldsUptoCard
end Rows
end Go.Proofs.YtahihfhfkjiimaaDoor
