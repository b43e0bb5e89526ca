/-
  DERIVED. GIVEN WITH THE SEED: THE CARDS: each row of YtjefafgnkaenbaaGreatDoorRows.lean that lists a variable, with what it lists TIED to the program's text (the seventh form; the later family's looks); each row that meets fmt, with fmt's text TOLD by the authors' own Lean function (tested against real Go, not proved from fmt's source: count such statements apart). THE CARD IS WHAT COUNTS. Prove the row's statement (the work); the ties are given (YtjefafgnkaenbaaGreatDoorTie.lean); close each card by the builder's one call (the guide's Derived/Test/ToyasCard.lean, 'card_holds'). Laid BY PROGRAM, IN A SANDBOX (cutbox-door.mjs). By AI agents, Wed Nov 11 2026. No macro, syntax, notation, axiom, sorry.
-/
import Derived.Test.YtjefafgnkaenbaaGreatDoorRows
import GoSem.ClaimSeven
namespace Go.Proofs.YtjefafgnkaenbaaGreatDoor
namespace Rows

/-- THE TIED CARD OF 'cubbyholelaw41.StaleNone'. -/
def staleNoneCard : Claim7 := { stood := { row := staleNoneRow, standIns := [], harness := (true, "30380ae87c3ea977bf05aeaf74595356266e809eec0eb702647c071acd6bc550"), looks := true }, kinds := [], alts := [], laidByText := true, laidKinds := [.data], laidTests := true, laidLooks := .later }
def StaleNoneCardSaid : Prop := Claim7.holds Tryz.pinned (.plain (OpenSpec.ofChange staleNoneSpec)) staleNoneCard

/-- THE SECOND FORM's CARD OF 'cubbyholelaw41.StaleNone'. -/
def staleNoneUptoCard : Claim7 := { stood := { row := staleNoneUptoRow, standIns := [], harness := (true, "30380ae87c3ea977bf05aeaf74595356266e809eec0eb702647c071acd6bc550"), looks := true }, kinds := [], alts := [], laidByText := true, laidKinds := [.data], laidTests := true, laidLooks := .later }
def StaleNoneUptoCardSaid : Prop := Claim7.holds Tryz.pinned (.plain (OpenSpec.upto staleNoneSpec)) staleNoneUptoCard
end Rows
end Go.Proofs.YtjefafgnkaenbaaGreatDoor
