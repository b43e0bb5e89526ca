/-
  DERIVED. GIVEN WITH THE SEED: THE CARDS: each row of YtfmgmlnfgnnbaaaGreatDoorRows.lean that lists a variable, with what it lists TIED to the program's text (the seventh form; the later family's looks); each row that meets fmt, with fmt's text TOLD by the authors' own Lean function (tested against real Go, not proved from fmt's source: count such statements apart). THE CARD IS WHAT COUNTS. Prove the row's statement (the work); the ties are given (YtfmgmlnfgnnbaaaGreatDoorTie.lean); close each card by the builder's one call (the guide's Derived/Test/ToyasCard.lean, 'card_holds'). Laid BY PROGRAM, IN A SANDBOX (cutbox-door.mjs). By AI agents, Wed Nov 11 2026. No macro, syntax, notation, axiom, sorry.
-/
import Derived.Test.YtfmgmlnfgnnbaaaGreatDoorRows
import GoSem.ClaimSeven
namespace Go.Proofs.YtfmgmlnfgnnbaaaGreatDoor
namespace Rows

/-- THE TIED CARD OF 'cubbyholelaw48.LeaseNone'. -/
def leaseNoneCard : Claim7 := { stood := { row := leaseNoneRow, standIns := [], harness := (true, "67c1bb0f50a4f9d6fe35645e1f272e902c9c14aae3a654743c4926d85949b13d"), looks := true }, kinds := [], alts := [], laidByText := true, laidKinds := [.data], laidTests := true, laidLooks := .later }
def LeaseNoneCardSaid : Prop := Claim7.holds Tryz.pinned (.plain (OpenSpec.ofChange leaseNoneSpec)) leaseNoneCard

/-- THE SECOND FORM's CARD OF 'cubbyholelaw48.LeaseNone'. -/
def leaseNoneUptoCard : Claim7 := { stood := { row := leaseNoneUptoRow, standIns := [], harness := (true, "67c1bb0f50a4f9d6fe35645e1f272e902c9c14aae3a654743c4926d85949b13d"), looks := true }, kinds := [], alts := [], laidByText := true, laidKinds := [.data], laidTests := true, laidLooks := .later }
def LeaseNoneUptoCardSaid : Prop := Claim7.holds Tryz.pinned (.plain (OpenSpec.upto leaseNoneSpec)) leaseNoneUptoCard
end Rows
end Go.Proofs.YtfmgmlnfgnnbaaaGreatDoor
