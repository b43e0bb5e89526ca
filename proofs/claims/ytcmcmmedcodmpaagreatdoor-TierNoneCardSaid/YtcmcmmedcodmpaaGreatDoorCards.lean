/-
  DERIVED. GIVEN WITH THE SEED: THE CARDS: each row of YtcmcmmedcodmpaaGreatDoorRows.lean that lists a variable, with what it lists TIED to the program's text (the seventh form; the later family's looks); each row that meets fmt, with fmt's text TOLD by the authors' own Lean function (tested against real Go, not proved from fmt's source: count such statements apart). THE CARD IS WHAT COUNTS. Prove the row's statement (the work); the ties are given (YtcmcmmedcodmpaaGreatDoorTie.lean); close each card by the builder's one call (the guide's Derived/Test/ToyasCard.lean, 'card_holds'). Laid BY PROGRAM, IN A SANDBOX (cutbox-door.mjs). By AI agents, Wed Nov 11 2026. No macro, syntax, notation, axiom, sorry.
-/
import Derived.Test.YtcmcmmedcodmpaaGreatDoorRows
import GoSem.ClaimSeven
namespace Go.Proofs.YtcmcmmedcodmpaaGreatDoor
namespace Rows

/-- THE TIED CARD OF 'cubbyholelaw42.TierNone'. -/
def tierNoneCard : Claim7 := { stood := { row := tierNoneRow, standIns := [], harness := (true, "4f46ae792e7449da34e9537eebe64788e089d2a0b27fb7754386d039ae32a500"), looks := true }, kinds := [], alts := [], laidByText := true, laidKinds := [.data], laidTests := true, laidLooks := .later }
def TierNoneCardSaid : Prop := Claim7.holds Tryz.pinned (.plain (OpenSpec.ofChange tierNoneSpec)) tierNoneCard

/-- THE SECOND FORM's CARD OF 'cubbyholelaw42.TierNone'. -/
def tierNoneUptoCard : Claim7 := { stood := { row := tierNoneUptoRow, standIns := [], harness := (true, "4f46ae792e7449da34e9537eebe64788e089d2a0b27fb7754386d039ae32a500"), looks := true }, kinds := [], alts := [], laidByText := true, laidKinds := [.data], laidTests := true, laidLooks := .later }
def TierNoneUptoCardSaid : Prop := Claim7.holds Tryz.pinned (.plain (OpenSpec.upto tierNoneSpec)) tierNoneUptoCard
end Rows
end Go.Proofs.YtcmcmmedcodmpaaGreatDoor
