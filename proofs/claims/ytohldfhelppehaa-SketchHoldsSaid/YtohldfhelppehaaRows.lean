/-
  No cell of these rows narrows 'for every input' (looked for: loops, veiled, ifaces, maps, wideKeys, modest, calm, conditions, laid).
  DERIVED. THE GIVEN ROWS OF THIS SEAT. 9 by the template 'for every input the law returns true; each argument reads behind the call as it read before'; 0 by the template 'total and deterministic' (their statements: YtohldfhelppehaaTotals.lean).
  GIVEN WITH THE SEED: the statements are not yours to turn. If you find one false, say at which input.
  Laid BY PROGRAM, IN A SANDBOX (cutbox-rows.mjs): the forced cells as the released guide's own fill.sh prints them over the translation 96a7456eb1bf72ed… (all of the seat's roots in one cut). By AI agents, Wed Nov 11 2026. No macro, syntax, notation, axiom, sorry.
-/
import Derived.Test.YtohldfhelppehaaChecked
import GoSem.Claim
import GoSem.ClaimJoined
import GoSem.ClaimMapViews
import Derived.JoinedTies
import Derived.KernelRfl
namespace Go.Proofs.Ytohldfhelppehaa
/- THE CELL 'sum', in the pinned program and in every row, IS THE sha256 OF THE DUMP (.gsa) THAT YtohldfhelppehaaProg.lean LOADS. Nothing in Lean hashes anything: it is a label: what it is worth is what the hold of that sum in a sandbox is worth. -/
noncomputable def Try.pinned : Pinned := { name := "ytohldfhelppehaa", sum := "96a7456eb1bf72ed8ee055cce98fcfd3b587a4a6aaabd6bc41eecf4e98cbcaff", checked := Try.checked }
namespace Rows
def none {H : Type} : Left H := { results := [], args := [] }

/-- 'cubbyholelaw34.BloomNew': WHATEVER THE INPUT: true; the input reads as it did. -/
def bloomNewSpec : ChangeSpec := { name := "bloomNew", fn := fun _ => fun
  | [d1, d2, d3] => { results := [.lit (.bool true)], args := [d1, d2, d3] }
  | _ => none }
def bloomNewRow : OpenClaim := { program := "ytohldfhelppehaa", sum := "96a7456eb1bf72ed8ee055cce98fcfd3b587a4a6aaabd6bc41eecf4e98cbcaff", func := "cubbyhole/cubbyholelaw34.BloomNew", spec := "bloomNew", unfollowed := true, recurses := true, apart := false }
def BloomNewSaid : Prop := bloomNewRow.holds Try.pinned (OpenSpec.ofChange bloomNewSpec)

/-- ITS FALSE NEIGHBOUR: 'it returns false'. Refute it at one input. -/
def bloomNewWrong : ChangeSpec := { name := "bloomNew", fn := fun _ => fun
  | [d1, d2, d3] => { results := [.lit (.bool false)], args := [d1, d2, d3] }
  | _ => none }
def BloomNewWrongFalsely : Prop := bloomNewRow.holds Try.pinned (OpenSpec.ofChange bloomNewWrong)

/-- 'cubbyholelaw34.BloomPlaces': WHATEVER THE INPUT: true; the input reads as it did. -/
def bloomPlacesSpec : ChangeSpec := { name := "bloomPlaces", fn := fun _ => fun
  | [d1, d2, d3, d4] => { results := [.lit (.bool true)], args := [d1, d2, d3, d4] }
  | _ => none }
def bloomPlacesRow : OpenClaim := { program := "ytohldfhelppehaa", sum := "96a7456eb1bf72ed8ee055cce98fcfd3b587a4a6aaabd6bc41eecf4e98cbcaff", func := "cubbyhole/cubbyholelaw34.BloomPlaces", spec := "bloomPlaces", unfollowed := true, recurses := true, apart := false }
def BloomPlacesSaid : Prop := bloomPlacesRow.holds Try.pinned (OpenSpec.ofChange bloomPlacesSpec)

/-- ITS FALSE NEIGHBOUR: 'it returns false'. Refute it at one input. -/
def bloomPlacesWrong : ChangeSpec := { name := "bloomPlaces", fn := fun _ => fun
  | [d1, d2, d3, d4] => { results := [.lit (.bool false)], args := [d1, d2, d3, d4] }
  | _ => none }
def BloomPlacesWrongFalsely : Prop := bloomPlacesRow.holds Try.pinned (OpenSpec.ofChange bloomPlacesWrong)

/-- 'cubbyholelaw34.BloomPlays': WHATEVER THE INPUT: true; the input reads as it did. -/
def bloomPlaysSpec : ChangeSpec := { name := "bloomPlays", fn := fun _ => fun
  | [d1, d2, d3, d4] => { results := [.lit (.bool true)], args := [d1, d2, d3, d4] }
  | _ => none }
def bloomPlaysRow : OpenClaim := { program := "ytohldfhelppehaa", sum := "96a7456eb1bf72ed8ee055cce98fcfd3b587a4a6aaabd6bc41eecf4e98cbcaff", func := "cubbyhole/cubbyholelaw34.BloomPlays", spec := "bloomPlays", unfollowed := true, recurses := true, apart := false }
def BloomPlaysSaid : Prop := bloomPlaysRow.holds Try.pinned (OpenSpec.ofChange bloomPlaysSpec)

/-- ITS FALSE NEIGHBOUR: 'it returns false'. Refute it at one input. -/
def bloomPlaysWrong : ChangeSpec := { name := "bloomPlays", fn := fun _ => fun
  | [d1, d2, d3, d4] => { results := [.lit (.bool false)], args := [d1, d2, d3, d4] }
  | _ => none }
def BloomPlaysWrongFalsely : Prop := bloomPlaysRow.holds Try.pinned (OpenSpec.ofChange bloomPlaysWrong)

/-- 'cubbyholelaw34.BloomJoins': WHATEVER THE INPUT: true; the input reads as it did. -/
def bloomJoinsSpec : ChangeSpec := { name := "bloomJoins", fn := fun _ => fun
  | [d1, d2, d3, d4, d5, d6, d7, d8] => { results := [.lit (.bool true)], args := [d1, d2, d3, d4, d5, d6, d7, d8] }
  | _ => none }
def bloomJoinsRow : OpenClaim := { program := "ytohldfhelppehaa", sum := "96a7456eb1bf72ed8ee055cce98fcfd3b587a4a6aaabd6bc41eecf4e98cbcaff", func := "cubbyhole/cubbyholelaw34.BloomJoins", spec := "bloomJoins", unfollowed := true, recurses := true, apart := false }
def BloomJoinsSaid : Prop := bloomJoinsRow.holds Try.pinned (OpenSpec.ofChange bloomJoinsSpec)

/-- ITS FALSE NEIGHBOUR: 'it returns false'. Refute it at one input. -/
def bloomJoinsWrong : ChangeSpec := { name := "bloomJoins", fn := fun _ => fun
  | [d1, d2, d3, d4, d5, d6, d7, d8] => { results := [.lit (.bool false)], args := [d1, d2, d3, d4, d5, d6, d7, d8] }
  | _ => none }
def BloomJoinsWrongFalsely : Prop := bloomJoinsRow.holds Try.pinned (OpenSpec.ofChange bloomJoinsWrong)

/-- 'cubbyholelaw34.BloomHolds': WHATEVER THE INPUT: true; the input reads as it did. -/
def bloomHoldsSpec : ChangeSpec := { name := "bloomHolds", fn := fun _ => fun
  | [d1, d2, d3, d4, d5] => { results := [.lit (.bool true)], args := [d1, d2, d3, d4, d5] }
  | _ => none }
def bloomHoldsRow : OpenClaim := { program := "ytohldfhelppehaa", sum := "96a7456eb1bf72ed8ee055cce98fcfd3b587a4a6aaabd6bc41eecf4e98cbcaff", func := "cubbyhole/cubbyholelaw34.BloomHolds", spec := "bloomHolds", unfollowed := true, recurses := true, apart := false }
def BloomHoldsSaid : Prop := bloomHoldsRow.holds Try.pinned (OpenSpec.ofChange bloomHoldsSpec)

/-- ITS FALSE NEIGHBOUR: 'it returns false'. Refute it at one input. -/
def bloomHoldsWrong : ChangeSpec := { name := "bloomHolds", fn := fun _ => fun
  | [d1, d2, d3, d4, d5] => { results := [.lit (.bool false)], args := [d1, d2, d3, d4, d5] }
  | _ => none }
def BloomHoldsWrongFalsely : Prop := bloomHoldsRow.holds Try.pinned (OpenSpec.ofChange bloomHoldsWrong)

/-- 'cubbyholelaw33.SketchNew': WHATEVER THE INPUT: true; the input reads as it did. -/
def sketchNewSpec : ChangeSpec := { name := "sketchNew", fn := fun _ => fun
  | [d1, d2, d3] => { results := [.lit (.bool true)], args := [d1, d2, d3] }
  | _ => none }
def sketchNewRow : OpenClaim := { program := "ytohldfhelppehaa", sum := "96a7456eb1bf72ed8ee055cce98fcfd3b587a4a6aaabd6bc41eecf4e98cbcaff", func := "cubbyhole/cubbyholelaw33.SketchNew", spec := "sketchNew", apart := false }
def SketchNewSaid : Prop := sketchNewRow.holds Try.pinned (OpenSpec.ofChange sketchNewSpec)

/-- ITS FALSE NEIGHBOUR: 'it returns false'. Refute it at one input. -/
def sketchNewWrong : ChangeSpec := { name := "sketchNew", fn := fun _ => fun
  | [d1, d2, d3] => { results := [.lit (.bool false)], args := [d1, d2, d3] }
  | _ => none }
def SketchNewWrongFalsely : Prop := sketchNewRow.holds Try.pinned (OpenSpec.ofChange sketchNewWrong)

/-- 'cubbyholelaw33.SketchPlaces': WHATEVER THE INPUT: true; the input reads as it did. -/
def sketchPlacesSpec : ChangeSpec := { name := "sketchPlaces", fn := fun _ => fun
  | [d1, d2, d3] => { results := [.lit (.bool true)], args := [d1, d2, d3] }
  | _ => none }
def sketchPlacesRow : OpenClaim := { program := "ytohldfhelppehaa", sum := "96a7456eb1bf72ed8ee055cce98fcfd3b587a4a6aaabd6bc41eecf4e98cbcaff", func := "cubbyhole/cubbyholelaw33.SketchPlaces", spec := "sketchPlaces", apart := false }
def SketchPlacesSaid : Prop := sketchPlacesRow.holds Try.pinned (OpenSpec.ofChange sketchPlacesSpec)

/-- ITS FALSE NEIGHBOUR: 'it returns false'. Refute it at one input. -/
def sketchPlacesWrong : ChangeSpec := { name := "sketchPlaces", fn := fun _ => fun
  | [d1, d2, d3] => { results := [.lit (.bool false)], args := [d1, d2, d3] }
  | _ => none }
def SketchPlacesWrongFalsely : Prop := sketchPlacesRow.holds Try.pinned (OpenSpec.ofChange sketchPlacesWrong)

/-- 'cubbyholelaw33.SketchPlays': WHATEVER THE INPUT: true; the input reads as it did. -/
def sketchPlaysSpec : ChangeSpec := { name := "sketchPlays", fn := fun _ => fun
  | [d1, d2, d3, d4] => { results := [.lit (.bool true)], args := [d1, d2, d3, d4] }
  | _ => none }
def sketchPlaysRow : OpenClaim := { program := "ytohldfhelppehaa", sum := "96a7456eb1bf72ed8ee055cce98fcfd3b587a4a6aaabd6bc41eecf4e98cbcaff", func := "cubbyhole/cubbyholelaw33.SketchPlays", spec := "sketchPlays", apart := false }
def SketchPlaysSaid : Prop := sketchPlaysRow.holds Try.pinned (OpenSpec.ofChange sketchPlaysSpec)

/-- ITS FALSE NEIGHBOUR: 'it returns false'. Refute it at one input. -/
def sketchPlaysWrong : ChangeSpec := { name := "sketchPlays", fn := fun _ => fun
  | [d1, d2, d3, d4] => { results := [.lit (.bool false)], args := [d1, d2, d3, d4] }
  | _ => none }
def SketchPlaysWrongFalsely : Prop := sketchPlaysRow.holds Try.pinned (OpenSpec.ofChange sketchPlaysWrong)

/-- 'cubbyholelaw33.SketchHolds': WHATEVER THE INPUT: true; the input reads as it did. -/
def sketchHoldsSpec : ChangeSpec := { name := "sketchHolds", fn := fun _ => fun
  | [d1, d2, d3, d4] => { results := [.lit (.bool true)], args := [d1, d2, d3, d4] }
  | _ => none }
def sketchHoldsRow : OpenClaim := { program := "ytohldfhelppehaa", sum := "96a7456eb1bf72ed8ee055cce98fcfd3b587a4a6aaabd6bc41eecf4e98cbcaff", func := "cubbyhole/cubbyholelaw33.SketchHolds", spec := "sketchHolds", apart := false }
def SketchHoldsSaid : Prop := sketchHoldsRow.holds Try.pinned (OpenSpec.ofChange sketchHoldsSpec)

/-- ITS FALSE NEIGHBOUR: 'it returns false'. Refute it at one input. -/
def sketchHoldsWrong : ChangeSpec := { name := "sketchHolds", fn := fun _ => fun
  | [d1, d2, d3, d4] => { results := [.lit (.bool false)], args := [d1, d2, d3, d4] }
  | _ => none }
def SketchHoldsWrongFalsely : Prop := sketchHoldsRow.holds Try.pinned (OpenSpec.ofChange sketchHoldsWrong)

/- THE SECOND FORM. 'bulk': how many values and letters a reading holds, each counted each time it is reached (what is shared counts as often as it is met; a slice's spare places count too). A statement '..UptoSaid' is the law's where the arguments, and the package variables that the reading takes, are together of bulk at most 1048576: NARROWER than '..Said'. Prove '..Said' where nothing that the law and all that it calls make is longer than what came in: it says more and counts as full. Else prove '..UptoSaid'. A law counts once. -/
mutual
def uptoBulk {H : Type} : DataW H → Nat
  | .lit (.string bytes) => bytes.length + 1
  | .lit _ => 1
  | .nil => 1
  | .ptr d => uptoBulk d + 1
  | .slice elems spare => uptoBulkAll elems + uptoBulkAll spare + 1
  | .agg parts => uptoBulkAll parts + 1
  | .iface _ d => uptoBulk d + 1
  | .map entries => uptoBulkEntries entries + 1
  | .held _ => 1
def uptoBulkAll {H : Type} : List (DataW H) → Nat
  | [] => 0
  | d :: r => uptoBulk d + uptoBulkAll r
def uptoBulkEntries {H : Type} : List (Lit × DataW H) → Nat
  | [] => 0
  | x :: r => uptoBulkEntry x + uptoBulkEntries r
def uptoBulkEntry {H : Type} : Lit × DataW H → Nat
  | (.string bytes, d) => bytes.length + uptoBulk d + 1
  | (_, d) => uptoBulk d + 1
 end
def uptoSmall : (H : Type) → List (DataW H) → Bool := fun _ ds => decide (uptoBulkAll ds ≤ 1048576)
def OpenSpec.upto (s : _root_.Go.ChangeSpec) : _root_.Go.OpenSpec := { _root_.Go.OpenSpec.ofChange s with cond := some uptoSmall }

/-- 'cubbyholelaw34.BloomNew', WHERE WHAT IT READS IS OF BULK AT MOST 1048576: true; the input reads as it did. -/
def bloomNewUptoRow : OpenClaim := { program := "ytohldfhelppehaa", sum := "96a7456eb1bf72ed8ee055cce98fcfd3b587a4a6aaabd6bc41eecf4e98cbcaff", func := "cubbyhole/cubbyholelaw34.BloomNew", spec := "bloomNew", unfollowed := true, recurses := true, apart := false, narrowed := true }
def BloomNewUptoSaid : Prop := bloomNewUptoRow.holds Try.pinned (OpenSpec.upto bloomNewSpec)

/-- 'cubbyholelaw34.BloomPlaces', WHERE WHAT IT READS IS OF BULK AT MOST 1048576: true; the input reads as it did. -/
def bloomPlacesUptoRow : OpenClaim := { program := "ytohldfhelppehaa", sum := "96a7456eb1bf72ed8ee055cce98fcfd3b587a4a6aaabd6bc41eecf4e98cbcaff", func := "cubbyhole/cubbyholelaw34.BloomPlaces", spec := "bloomPlaces", unfollowed := true, recurses := true, apart := false, narrowed := true }
def BloomPlacesUptoSaid : Prop := bloomPlacesUptoRow.holds Try.pinned (OpenSpec.upto bloomPlacesSpec)

/-- 'cubbyholelaw34.BloomPlays', WHERE WHAT IT READS IS OF BULK AT MOST 1048576: true; the input reads as it did. -/
def bloomPlaysUptoRow : OpenClaim := { program := "ytohldfhelppehaa", sum := "96a7456eb1bf72ed8ee055cce98fcfd3b587a4a6aaabd6bc41eecf4e98cbcaff", func := "cubbyhole/cubbyholelaw34.BloomPlays", spec := "bloomPlays", unfollowed := true, recurses := true, apart := false, narrowed := true }
def BloomPlaysUptoSaid : Prop := bloomPlaysUptoRow.holds Try.pinned (OpenSpec.upto bloomPlaysSpec)

/-- 'cubbyholelaw34.BloomJoins', WHERE WHAT IT READS IS OF BULK AT MOST 1048576: true; the input reads as it did. -/
def bloomJoinsUptoRow : OpenClaim := { program := "ytohldfhelppehaa", sum := "96a7456eb1bf72ed8ee055cce98fcfd3b587a4a6aaabd6bc41eecf4e98cbcaff", func := "cubbyhole/cubbyholelaw34.BloomJoins", spec := "bloomJoins", unfollowed := true, recurses := true, apart := false, narrowed := true }
def BloomJoinsUptoSaid : Prop := bloomJoinsUptoRow.holds Try.pinned (OpenSpec.upto bloomJoinsSpec)

/-- 'cubbyholelaw34.BloomHolds', WHERE WHAT IT READS IS OF BULK AT MOST 1048576: true; the input reads as it did. -/
def bloomHoldsUptoRow : OpenClaim := { program := "ytohldfhelppehaa", sum := "96a7456eb1bf72ed8ee055cce98fcfd3b587a4a6aaabd6bc41eecf4e98cbcaff", func := "cubbyhole/cubbyholelaw34.BloomHolds", spec := "bloomHolds", unfollowed := true, recurses := true, apart := false, narrowed := true }
def BloomHoldsUptoSaid : Prop := bloomHoldsUptoRow.holds Try.pinned (OpenSpec.upto bloomHoldsSpec)

/-- 'cubbyholelaw33.SketchNew', WHERE WHAT IT READS IS OF BULK AT MOST 1048576: true; the input reads as it did. -/
def sketchNewUptoRow : OpenClaim := { program := "ytohldfhelppehaa", sum := "96a7456eb1bf72ed8ee055cce98fcfd3b587a4a6aaabd6bc41eecf4e98cbcaff", func := "cubbyhole/cubbyholelaw33.SketchNew", spec := "sketchNew", apart := false, narrowed := true }
def SketchNewUptoSaid : Prop := sketchNewUptoRow.holds Try.pinned (OpenSpec.upto sketchNewSpec)

/-- 'cubbyholelaw33.SketchPlaces', WHERE WHAT IT READS IS OF BULK AT MOST 1048576: true; the input reads as it did. -/
def sketchPlacesUptoRow : OpenClaim := { program := "ytohldfhelppehaa", sum := "96a7456eb1bf72ed8ee055cce98fcfd3b587a4a6aaabd6bc41eecf4e98cbcaff", func := "cubbyhole/cubbyholelaw33.SketchPlaces", spec := "sketchPlaces", apart := false, narrowed := true }
def SketchPlacesUptoSaid : Prop := sketchPlacesUptoRow.holds Try.pinned (OpenSpec.upto sketchPlacesSpec)

/-- 'cubbyholelaw33.SketchPlays', WHERE WHAT IT READS IS OF BULK AT MOST 1048576: true; the input reads as it did. -/
def sketchPlaysUptoRow : OpenClaim := { program := "ytohldfhelppehaa", sum := "96a7456eb1bf72ed8ee055cce98fcfd3b587a4a6aaabd6bc41eecf4e98cbcaff", func := "cubbyhole/cubbyholelaw33.SketchPlays", spec := "sketchPlays", apart := false, narrowed := true }
def SketchPlaysUptoSaid : Prop := sketchPlaysUptoRow.holds Try.pinned (OpenSpec.upto sketchPlaysSpec)

/-- 'cubbyholelaw33.SketchHolds', WHERE WHAT IT READS IS OF BULK AT MOST 1048576: true; the input reads as it did. -/
def sketchHoldsUptoRow : OpenClaim := { program := "ytohldfhelppehaa", sum := "96a7456eb1bf72ed8ee055cce98fcfd3b587a4a6aaabd6bc41eecf4e98cbcaff", func := "cubbyhole/cubbyholelaw33.SketchHolds", spec := "sketchHolds", apart := false, narrowed := true }
def SketchHoldsUptoSaid : Prop := sketchHoldsUptoRow.holds Try.pinned (OpenSpec.upto sketchHoldsSpec)

end Rows
end Go.Proofs.Ytohldfhelppehaa
