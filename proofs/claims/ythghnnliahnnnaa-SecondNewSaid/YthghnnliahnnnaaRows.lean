/-
  No cell of these rows narrows 'for every input' (looked for: loops, veiled, ifaces, maps, wideKeys, modest, calm, conditions, laid).
  DERIVED. THE GIVEN ROWS OF THIS SEAT. 6 by the template 'for every input the law returns true; each argument reads behind the call as it read before'; 0 by the template 'total and deterministic' (their statements: YthghnnliahnnnaaTotals.lean).
  GIVEN WITH THE SEED: the statements are not yours to turn. If you find one false, say at which input.
  Laid BY PROGRAM, IN A SANDBOX (cutbox-rows.mjs): the forced cells as the released guide's own fill.sh prints them over the translation e9dbbf4ae1a5ee29… (all of the seat's roots in one cut). By AI agents, Wed Nov 11 2026. No macro, syntax, notation, axiom, sorry.
-/
import Derived.Test.YthghnnliahnnnaaChecked
import GoSem.Claim
import GoSem.ClaimJoined
import GoSem.ClaimMapViews
import Derived.JoinedTies
import Derived.KernelRfl
namespace Go.Proofs.Ythghnnliahnnnaa
/- THE CELL 'sum', in the pinned program and in every row, IS THE sha256 OF THE DUMP (.gsa) THAT YthghnnliahnnnaaProg.lean LOADS. Nothing in Lean hashes anything: it is a label: what it is worth is what the hold of that sum in a sandbox is worth. -/
noncomputable def Try.pinned : Pinned := { name := "ythghnnliahnnnaa", sum := "e9dbbf4ae1a5ee29406a2e46c214b5ee60f3ab808b1c0224f663b14dc4fd714f", checked := Try.checked }
namespace Rows
def none {H : Type} : Left H := { results := [], args := [] }

/-- 'cubbyholelaw33.SketchNew': WHATEVER THE INPUT: true; the input reads as it did. -/
def sketchNewSpec : ChangeSpec := { name := "sketchNew", fn := fun _ => fun
  | [d1, d2, d3] => { results := [.lit (.bool true)], args := [d1, d2, d3] }
  | _ => none }
def sketchNewRow : OpenClaim := { program := "ythghnnliahnnnaa", sum := "e9dbbf4ae1a5ee29406a2e46c214b5ee60f3ab808b1c0224f663b14dc4fd714f", func := "cubbyhole/cubbyholelaw33.SketchNew", spec := "sketchNew", apart := false }
def SketchNewSaid : Prop := sketchNewRow.holds Try.pinned (OpenSpec.ofChange sketchNewSpec)

/-- ITS FALSE NEIGHBOUR: 'it returns false'. Refute it at one input. -/
def sketchNewWrong : ChangeSpec := { name := "sketchNew", fn := fun _ => fun
  | [d1, d2, d3] => { results := [.lit (.bool false)], args := [d1, d2, d3] }
  | _ => none }
def SketchNewWrongFalsely : Prop := sketchNewRow.holds Try.pinned (OpenSpec.ofChange sketchNewWrong)

/-- 'cubbyholelaw34.BloomNew': WHATEVER THE INPUT: true; the input reads as it did. -/
def bloomNewSpec : ChangeSpec := { name := "bloomNew", fn := fun _ => fun
  | [d1, d2, d3] => { results := [.lit (.bool true)], args := [d1, d2, d3] }
  | _ => none }
def bloomNewRow : OpenClaim := { program := "ythghnnliahnnnaa", sum := "e9dbbf4ae1a5ee29406a2e46c214b5ee60f3ab808b1c0224f663b14dc4fd714f", func := "cubbyhole/cubbyholelaw34.BloomNew", spec := "bloomNew", unfollowed := true, recurses := true, apart := false }
def BloomNewSaid : Prop := bloomNewRow.holds Try.pinned (OpenSpec.ofChange bloomNewSpec)

/-- ITS FALSE NEIGHBOUR: 'it returns false'. Refute it at one input. -/
def bloomNewWrong : ChangeSpec := { name := "bloomNew", fn := fun _ => fun
  | [d1, d2, d3] => { results := [.lit (.bool false)], args := [d1, d2, d3] }
  | _ => none }
def BloomNewWrongFalsely : Prop := bloomNewRow.holds Try.pinned (OpenSpec.ofChange bloomNewWrong)

/-- 'cubbyholelaw28.GhostFull': WHATEVER THE INPUT: true; the input reads as it did. -/
def ghostFullSpec : ChangeSpec := { name := "ghostFull", fn := fun _ => fun
  | [d1, d2] => { results := [.lit (.bool true)], args := [d1, d2] }
  | _ => none }
def ghostFullRow : OpenClaim := { program := "ythghnnliahnnnaa", sum := "e9dbbf4ae1a5ee29406a2e46c214b5ee60f3ab808b1c0224f663b14dc4fd714f", func := "cubbyhole/cubbyholelaw28.GhostFull", spec := "ghostFull", unfollowed := true, recurses := true, apart := false }
def GhostFullSaid : Prop := ghostFullRow.holds Try.pinned (OpenSpec.ofChange ghostFullSpec)

/-- ITS FALSE NEIGHBOUR: 'it returns false'. Refute it at one input. -/
def ghostFullWrong : ChangeSpec := { name := "ghostFull", fn := fun _ => fun
  | [d1, d2] => { results := [.lit (.bool false)], args := [d1, d2] }
  | _ => none }
def GhostFullWrongFalsely : Prop := ghostFullRow.holds Try.pinned (OpenSpec.ofChange ghostFullWrong)

/-- 'cubbyholelaw30.LfuNew': WHATEVER THE INPUT: true; the input reads as it did. -/
def lfuNewSpec : ChangeSpec := { name := "lfuNew", fn := fun _ => fun
  | [d1, d2] => { results := [.lit (.bool true)], args := [d1, d2] }
  | _ => none }
def lfuNewRow : OpenClaim := { program := "ythghnnliahnnnaa", sum := "e9dbbf4ae1a5ee29406a2e46c214b5ee60f3ab808b1c0224f663b14dc4fd714f", func := "cubbyhole/cubbyholelaw30.LfuNew", spec := "lfuNew", unfollowed := true, recurses := true, apart := false }
def LfuNewSaid : Prop := lfuNewRow.holds Try.pinned (OpenSpec.ofChange lfuNewSpec)

/-- ITS FALSE NEIGHBOUR: 'it returns false'. Refute it at one input. -/
def lfuNewWrong : ChangeSpec := { name := "lfuNew", fn := fun _ => fun
  | [d1, d2] => { results := [.lit (.bool false)], args := [d1, d2] }
  | _ => none }
def LfuNewWrongFalsely : Prop := lfuNewRow.holds Try.pinned (OpenSpec.ofChange lfuNewWrong)

/-- 'cubbyholelaw31.SecondNew': WHATEVER THE INPUT: true; the input reads as it did. -/
def secondNewSpec : ChangeSpec := { name := "secondNew", fn := fun _ => fun
  | [d] => { results := [.lit (.bool true)], args := [d] }
  | _ => none }
def secondNewRow : OpenClaim := { program := "ythghnnliahnnnaa", sum := "e9dbbf4ae1a5ee29406a2e46c214b5ee60f3ab808b1c0224f663b14dc4fd714f", func := "cubbyhole/cubbyholelaw31.SecondNew", spec := "secondNew", unfollowed := true, recurses := true, apart := false }
def SecondNewSaid : Prop := secondNewRow.holds Try.pinned (OpenSpec.ofChange secondNewSpec)

/-- ITS FALSE NEIGHBOUR: 'it returns false'. Refute it at one input. -/
def secondNewWrong : ChangeSpec := { name := "secondNew", fn := fun _ => fun
  | [d] => { results := [.lit (.bool false)], args := [d] }
  | _ => none }
def SecondNewWrongFalsely : Prop := secondNewRow.holds Try.pinned (OpenSpec.ofChange secondNewWrong)

/-- 'cubbyholelaw15.LruNil': WHATEVER THE INPUT: true; the input reads as it did. -/
def lruNilSpec : ChangeSpec := { name := "lruNil", fn := fun _ => fun
  | [d] => { results := [.lit (.bool true)], args := [d] }
  | _ => none }
def lruNilRow : OpenClaim := { program := "ythghnnliahnnnaa", sum := "e9dbbf4ae1a5ee29406a2e46c214b5ee60f3ab808b1c0224f663b14dc4fd714f", func := "cubbyhole/cubbyholelaw15.LruNil", spec := "lruNil", unfollowed := true, recurses := true, apart := false }
def LruNilSaid : Prop := lruNilRow.holds Try.pinned (OpenSpec.ofChange lruNilSpec)

/-- ITS FALSE NEIGHBOUR: 'it returns false'. Refute it at one input. -/
def lruNilWrong : ChangeSpec := { name := "lruNil", fn := fun _ => fun
  | [d] => { results := [.lit (.bool false)], args := [d] }
  | _ => none }
def LruNilWrongFalsely : Prop := lruNilRow.holds Try.pinned (OpenSpec.ofChange lruNilWrong)

/- THE SECOND FORM. 'bulk': how many values and letters a reading holds, each counted each time it is reached (what is shared counts as often as it is met; a slice's spare places count too). A statement '..UptoSaid' is the law's where the arguments, and the package variables that the reading takes, are together of bulk at most 1048576: NARROWER than '..Said'. Prove '..Said' where nothing that the law and all that it calls make is longer than what came in: it says more and counts as full. Else prove '..UptoSaid'. A law counts once. -/
mutual
def uptoBulk {H : Type} : DataW H → Nat
  | .lit (.string bytes) => bytes.length + 1
  | .lit _ => 1
  | .nil => 1
  | .ptr d => uptoBulk d + 1
  | .slice elems spare => uptoBulkAll elems + uptoBulkAll spare + 1
  | .agg parts => uptoBulkAll parts + 1
  | .iface _ d => uptoBulk d + 1
  | .map entries => uptoBulkEntries entries + 1
  | .held _ => 1
def uptoBulkAll {H : Type} : List (DataW H) → Nat
  | [] => 0
  | d :: r => uptoBulk d + uptoBulkAll r
def uptoBulkEntries {H : Type} : List (Lit × DataW H) → Nat
  | [] => 0
  | x :: r => uptoBulkEntry x + uptoBulkEntries r
def uptoBulkEntry {H : Type} : Lit × DataW H → Nat
  | (.string bytes, d) => bytes.length + uptoBulk d + 1
  | (_, d) => uptoBulk d + 1
 end
def uptoSmall : (H : Type) → List (DataW H) → Bool := fun _ ds => decide (uptoBulkAll ds ≤ 1048576)
def OpenSpec.upto (s : _root_.Go.ChangeSpec) : _root_.Go.OpenSpec := { _root_.Go.OpenSpec.ofChange s with cond := some uptoSmall }

/-- 'cubbyholelaw33.SketchNew', WHERE WHAT IT READS IS OF BULK AT MOST 1048576: true; the input reads as it did. -/
def sketchNewUptoRow : OpenClaim := { program := "ythghnnliahnnnaa", sum := "e9dbbf4ae1a5ee29406a2e46c214b5ee60f3ab808b1c0224f663b14dc4fd714f", func := "cubbyhole/cubbyholelaw33.SketchNew", spec := "sketchNew", apart := false, narrowed := true }
def SketchNewUptoSaid : Prop := sketchNewUptoRow.holds Try.pinned (OpenSpec.upto sketchNewSpec)

/-- 'cubbyholelaw34.BloomNew', WHERE WHAT IT READS IS OF BULK AT MOST 1048576: true; the input reads as it did. -/
def bloomNewUptoRow : OpenClaim := { program := "ythghnnliahnnnaa", sum := "e9dbbf4ae1a5ee29406a2e46c214b5ee60f3ab808b1c0224f663b14dc4fd714f", func := "cubbyhole/cubbyholelaw34.BloomNew", spec := "bloomNew", unfollowed := true, recurses := true, apart := false, narrowed := true }
def BloomNewUptoSaid : Prop := bloomNewUptoRow.holds Try.pinned (OpenSpec.upto bloomNewSpec)

/-- 'cubbyholelaw28.GhostFull', WHERE WHAT IT READS IS OF BULK AT MOST 1048576: true; the input reads as it did. -/
def ghostFullUptoRow : OpenClaim := { program := "ythghnnliahnnnaa", sum := "e9dbbf4ae1a5ee29406a2e46c214b5ee60f3ab808b1c0224f663b14dc4fd714f", func := "cubbyhole/cubbyholelaw28.GhostFull", spec := "ghostFull", unfollowed := true, recurses := true, apart := false, narrowed := true }
def GhostFullUptoSaid : Prop := ghostFullUptoRow.holds Try.pinned (OpenSpec.upto ghostFullSpec)

/-- 'cubbyholelaw30.LfuNew', WHERE WHAT IT READS IS OF BULK AT MOST 1048576: true; the input reads as it did. -/
def lfuNewUptoRow : OpenClaim := { program := "ythghnnliahnnnaa", sum := "e9dbbf4ae1a5ee29406a2e46c214b5ee60f3ab808b1c0224f663b14dc4fd714f", func := "cubbyhole/cubbyholelaw30.LfuNew", spec := "lfuNew", unfollowed := true, recurses := true, apart := false, narrowed := true }
def LfuNewUptoSaid : Prop := lfuNewUptoRow.holds Try.pinned (OpenSpec.upto lfuNewSpec)

/-- 'cubbyholelaw31.SecondNew', WHERE WHAT IT READS IS OF BULK AT MOST 1048576: true; the input reads as it did. -/
def secondNewUptoRow : OpenClaim := { program := "ythghnnliahnnnaa", sum := "e9dbbf4ae1a5ee29406a2e46c214b5ee60f3ab808b1c0224f663b14dc4fd714f", func := "cubbyhole/cubbyholelaw31.SecondNew", spec := "secondNew", unfollowed := true, recurses := true, apart := false, narrowed := true }
def SecondNewUptoSaid : Prop := secondNewUptoRow.holds Try.pinned (OpenSpec.upto secondNewSpec)

/-- 'cubbyholelaw15.LruNil', WHERE WHAT IT READS IS OF BULK AT MOST 1048576: true; the input reads as it did. -/
def lruNilUptoRow : OpenClaim := { program := "ythghnnliahnnnaa", sum := "e9dbbf4ae1a5ee29406a2e46c214b5ee60f3ab808b1c0224f663b14dc4fd714f", func := "cubbyhole/cubbyholelaw15.LruNil", spec := "lruNil", unfollowed := true, recurses := true, apart := false, narrowed := true }
def LruNilUptoSaid : Prop := lruNilUptoRow.holds Try.pinned (OpenSpec.upto lruNilSpec)

end Rows
end Go.Proofs.Ythghnnliahnnnaa
