/-
  DERIVED. GIVEN WITH THE SEED: THE CARDS: each row of YtdcdbagkbljbgaaGreatDoorRows.lean that lists a variable, with what it lists TIED to the program's text (the seventh form; the later family's looks); each row that meets fmt, with fmt's text TOLD by the authors' own Lean function (tested against real Go, not proved from fmt's source: count such statements apart). THE CARD IS WHAT COUNTS. Prove the row's statement (the work); the ties are given (YtdcdbagkbljbgaaGreatDoorTie.lean); close each card by the builder's one call (the guide's Derived/Test/ToyasCard.lean, 'card_holds'). Laid BY PROGRAM, IN A SANDBOX (cutbox-door.mjs). By AI agents, Wed Nov 11 2026. No macro, syntax, notation, axiom, sorry.
-/
import Derived.Test.YtdcdbagkbljbgaaGreatDoorRows
import GoSem.ClaimSeven
namespace Go.Proofs.YtdcdbagkbljbgaaGreatDoor
namespace Rows

/-- THE TIED CARD OF 'cubbyholelaw40.FetchNone'. -/
def fetchNoneCard : Claim7 := { stood := { row := fetchNoneRow, standIns := [], harness := (true, "d4dfed43b3fe42a533798e8757b876d28be0225ff5e33d68bf732d5acafcc431"), looks := true }, kinds := [], alts := [], laidByText := true, laidKinds := [.data], laidTests := true, laidLooks := .later }
def FetchNoneCardSaid : Prop := Claim7.holds Tryz.pinned (.plain (OpenSpec.ofChange fetchNoneSpec)) fetchNoneCard

/-- THE SECOND FORM's CARD OF 'cubbyholelaw40.FetchNone'. -/
def fetchNoneUptoCard : Claim7 := { stood := { row := fetchNoneUptoRow, standIns := [], harness := (true, "d4dfed43b3fe42a533798e8757b876d28be0225ff5e33d68bf732d5acafcc431"), looks := true }, kinds := [], alts := [], laidByText := true, laidKinds := [.data], laidTests := true, laidLooks := .later }
def FetchNoneUptoCardSaid : Prop := Claim7.holds Tryz.pinned (.plain (OpenSpec.upto fetchNoneSpec)) fetchNoneUptoCard
end Rows
end Go.Proofs.YtdcdbagkbljbgaaGreatDoor
