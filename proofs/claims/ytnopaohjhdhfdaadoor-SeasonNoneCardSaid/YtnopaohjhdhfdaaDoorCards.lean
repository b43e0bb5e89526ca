/-
  DERIVED. GIVEN WITH THE SEED: THE CARDS: each row of YtnopaohjhdhfdaaDoorRows.lean that lists a variable, with what it lists TIED to the program's text (the seventh form; the later family's looks); each row that meets fmt, with fmt's text TOLD by the authors' own Lean function (tested against real Go, not proved from fmt's source: count such statements apart). THE CARD IS WHAT COUNTS. Prove the row's statement (the work); the ties are given (YtnopaohjhdhfdaaDoorTie.lean); close each card by the builder's one call (the guide's Derived/Test/ToyasCard.lean, 'card_holds'). Laid BY PROGRAM, IN A SANDBOX (cutbox-door.mjs). By AI agents, Wed Nov 11 2026. No macro, syntax, notation, axiom, sorry.
-/
import Derived.Test.YtnopaohjhdhfdaaDoorRows
import GoSem.ClaimSeven
namespace Go.Proofs.YtnopaohjhdhfdaaDoor
namespace Rows

/-- THE TIED CARD OF 'cubbyholelaw50.SeasonNone'. -/
def seasonNoneCard : Claim7 := { stood := { row := seasonNoneRow, standIns := [], harness := (true, "9a0e553b9b82086b0c68f8a1d858c7891a77268e31ed0dbd22e40261c498e6d3"), looks := true }, kinds := [], alts := [], laidByText := true, laidKinds := [.data, .data, .data, .data, .sentinel, .sentinel, .pinned], laidTests := true, laidLooks := .later }
def SeasonNoneCardSaid : Prop := Claim7.holds Tryd.pinned (.plain (OpenSpec.ofChange seasonNoneSpec)) seasonNoneCard

/-- THE SECOND FORM's CARD OF 'cubbyholelaw50.SeasonNone'. -/
def seasonNoneUptoCard : Claim7 := { stood := { row := seasonNoneUptoRow, standIns := [], harness := (true, "9a0e553b9b82086b0c68f8a1d858c7891a77268e31ed0dbd22e40261c498e6d3"), looks := true }, kinds := [], alts := [], laidByText := true, laidKinds := [.data, .data, .data, .data, .sentinel, .sentinel, .pinned], laidTests := true, laidLooks := .later }
def SeasonNoneUptoCardSaid : Prop := Claim7.holds Tryd.pinned (.plain (OpenSpec.upto seasonNoneSpec)) seasonNoneUptoCard
end Rows
end Go.Proofs.YtnopaohjhdhfdaaDoor
