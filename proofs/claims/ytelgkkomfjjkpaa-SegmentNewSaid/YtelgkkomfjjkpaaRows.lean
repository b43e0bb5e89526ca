/-
  No cell of these rows narrows 'for every input' (looked for: loops, veiled, ifaces, maps, wideKeys, modest, calm, conditions, laid).
  DERIVED. THE GIVEN ROWS OF THIS SEAT. 11 by the template 'for every input the law returns true; each argument reads behind the call as it read before'; 0 by the template 'total and deterministic' (their statements: YtelgkkomfjjkpaaTotals.lean).
  GIVEN WITH THE SEED: the statements are not yours to turn. If you find one false, say at which input.
  Laid BY PROGRAM, IN A SANDBOX (cutbox-rows.mjs): the forced cells as the released guide's own fill.sh prints them over the translation ad34f3347870d920… (all of the seat's roots in one cut). By AI agents, Wed Nov 11 2026. No macro, syntax, notation, axiom, sorry.
-/
import Derived.Test.YtelgkkomfjjkpaaChecked
import GoSem.Claim
import GoSem.ClaimJoined
import GoSem.ClaimMapViews
import Derived.JoinedTies
import Derived.KernelRfl
namespace Go.Proofs.Ytelgkkomfjjkpaa
/- THE CELL 'sum', in the pinned program and in every row, IS THE sha256 OF THE DUMP (.gsa) THAT YtelgkkomfjjkpaaProg.lean LOADS. Nothing in Lean hashes anything: it is a label: what it is worth is what the hold of that sum in a sandbox is worth. -/
noncomputable def Try.pinned : Pinned := { name := "ytelgkkomfjjkpaa", sum := "ad34f3347870d9200829149f8ca3fa7a795e0c5349fcbbaaf2ca4414917ecbaa", checked := Try.checked }
namespace Rows
def none {H : Type} : Left H := { results := [], args := [] }

/-- 'cubbyholelaw12.BirthCounts': WHATEVER THE INPUT: true; the input reads as it did. -/
def birthCountsSpec : ChangeSpec := { name := "birthCounts", fn := fun _ => fun
  | [d1, d2, d3] => { results := [.lit (.bool true)], args := [d1, d2, d3] }
  | _ => none }
def birthCountsRow : OpenClaim := { program := "ytelgkkomfjjkpaa", sum := "ad34f3347870d9200829149f8ca3fa7a795e0c5349fcbbaaf2ca4414917ecbaa", func := "cubbyhole/cubbyholelaw12.BirthCounts", spec := "birthCounts", unfollowed := true, recurses := true, apart := false }
def BirthCountsSaid : Prop := birthCountsRow.holds Try.pinned (OpenSpec.ofChange birthCountsSpec)

/-- ITS FALSE NEIGHBOUR: 'it returns false'. Refute it at one input. -/
def birthCountsWrong : ChangeSpec := { name := "birthCounts", fn := fun _ => fun
  | [d1, d2, d3] => { results := [.lit (.bool false)], args := [d1, d2, d3] }
  | _ => none }
def BirthCountsWrongFalsely : Prop := birthCountsRow.holds Try.pinned (OpenSpec.ofChange birthCountsWrong)

/-- 'cubbyholelaw16.SegmentNew': WHATEVER THE INPUT: true; the input reads as it did. -/
def segmentNewSpec : ChangeSpec := { name := "segmentNew", fn := fun _ => fun
  | [d] => { results := [.lit (.bool true)], args := [d] }
  | _ => none }
def segmentNewRow : OpenClaim := { program := "ytelgkkomfjjkpaa", sum := "ad34f3347870d9200829149f8ca3fa7a795e0c5349fcbbaaf2ca4414917ecbaa", func := "cubbyhole/cubbyholelaw16.SegmentNew", spec := "segmentNew", unfollowed := true, recurses := true, apart := false }
def SegmentNewSaid : Prop := segmentNewRow.holds Try.pinned (OpenSpec.ofChange segmentNewSpec)

/-- ITS FALSE NEIGHBOUR: 'it returns false'. Refute it at one input. -/
def segmentNewWrong : ChangeSpec := { name := "segmentNew", fn := fun _ => fun
  | [d] => { results := [.lit (.bool false)], args := [d] }
  | _ => none }
def SegmentNewWrongFalsely : Prop := segmentNewRow.holds Try.pinned (OpenSpec.ofChange segmentNewWrong)

/-- 'cubbyholelaw28.GhostNew': WHATEVER THE INPUT: true; the input reads as it did. -/
def ghostNewSpec : ChangeSpec := { name := "ghostNew", fn := fun _ => fun
  | [d] => { results := [.lit (.bool true)], args := [d] }
  | _ => none }
def ghostNewRow : OpenClaim := { program := "ytelgkkomfjjkpaa", sum := "ad34f3347870d9200829149f8ca3fa7a795e0c5349fcbbaaf2ca4414917ecbaa", func := "cubbyhole/cubbyholelaw28.GhostNew", spec := "ghostNew", unfollowed := true, recurses := true, apart := false }
def GhostNewSaid : Prop := ghostNewRow.holds Try.pinned (OpenSpec.ofChange ghostNewSpec)

/-- ITS FALSE NEIGHBOUR: 'it returns false'. Refute it at one input. -/
def ghostNewWrong : ChangeSpec := { name := "ghostNew", fn := fun _ => fun
  | [d] => { results := [.lit (.bool false)], args := [d] }
  | _ => none }
def GhostNewWrongFalsely : Prop := ghostNewRow.holds Try.pinned (OpenSpec.ofChange ghostNewWrong)

/-- 'cubbyholelaw28.GhostFull': WHATEVER THE INPUT: true; the input reads as it did. -/
def ghostFullSpec : ChangeSpec := { name := "ghostFull", fn := fun _ => fun
  | [d1, d2] => { results := [.lit (.bool true)], args := [d1, d2] }
  | _ => none }
def ghostFullRow : OpenClaim := { program := "ytelgkkomfjjkpaa", sum := "ad34f3347870d9200829149f8ca3fa7a795e0c5349fcbbaaf2ca4414917ecbaa", func := "cubbyhole/cubbyholelaw28.GhostFull", spec := "ghostFull", unfollowed := true, recurses := true, apart := false }
def GhostFullSaid : Prop := ghostFullRow.holds Try.pinned (OpenSpec.ofChange ghostFullSpec)

/-- ITS FALSE NEIGHBOUR: 'it returns false'. Refute it at one input. -/
def ghostFullWrong : ChangeSpec := { name := "ghostFull", fn := fun _ => fun
  | [d1, d2] => { results := [.lit (.bool false)], args := [d1, d2] }
  | _ => none }
def GhostFullWrongFalsely : Prop := ghostFullRow.holds Try.pinned (OpenSpec.ofChange ghostFullWrong)

/-- 'cubbyholelaw29.ArcNew': WHATEVER THE INPUT: true; the input reads as it did. -/
def arcNewSpec : ChangeSpec := { name := "arcNew", fn := fun _ => fun
  | [d] => { results := [.lit (.bool true)], args := [d] }
  | _ => none }
def arcNewRow : OpenClaim := { program := "ytelgkkomfjjkpaa", sum := "ad34f3347870d9200829149f8ca3fa7a795e0c5349fcbbaaf2ca4414917ecbaa", func := "cubbyhole/cubbyholelaw29.ArcNew", spec := "arcNew", unfollowed := true, recurses := true, apart := false }
def ArcNewSaid : Prop := arcNewRow.holds Try.pinned (OpenSpec.ofChange arcNewSpec)

/-- ITS FALSE NEIGHBOUR: 'it returns false'. Refute it at one input. -/
def arcNewWrong : ChangeSpec := { name := "arcNew", fn := fun _ => fun
  | [d] => { results := [.lit (.bool false)], args := [d] }
  | _ => none }
def ArcNewWrongFalsely : Prop := arcNewRow.holds Try.pinned (OpenSpec.ofChange arcNewWrong)

/-- 'cubbyholelaw30.LfuNew': WHATEVER THE INPUT: true; the input reads as it did. -/
def lfuNewSpec : ChangeSpec := { name := "lfuNew", fn := fun _ => fun
  | [d1, d2] => { results := [.lit (.bool true)], args := [d1, d2] }
  | _ => none }
def lfuNewRow : OpenClaim := { program := "ytelgkkomfjjkpaa", sum := "ad34f3347870d9200829149f8ca3fa7a795e0c5349fcbbaaf2ca4414917ecbaa", func := "cubbyhole/cubbyholelaw30.LfuNew", spec := "lfuNew", unfollowed := true, recurses := true, apart := false }
def LfuNewSaid : Prop := lfuNewRow.holds Try.pinned (OpenSpec.ofChange lfuNewSpec)

/-- ITS FALSE NEIGHBOUR: 'it returns false'. Refute it at one input. -/
def lfuNewWrong : ChangeSpec := { name := "lfuNew", fn := fun _ => fun
  | [d1, d2] => { results := [.lit (.bool false)], args := [d1, d2] }
  | _ => none }
def LfuNewWrongFalsely : Prop := lfuNewRow.holds Try.pinned (OpenSpec.ofChange lfuNewWrong)

/-- 'cubbyholelaw30.LfuCounts': WHATEVER THE INPUT: true; the input reads as it did. -/
def lfuCountsSpec : ChangeSpec := { name := "lfuCounts", fn := fun _ => fun
  | [d1, d2] => { results := [.lit (.bool true)], args := [d1, d2] }
  | _ => none }
def lfuCountsRow : OpenClaim := { program := "ytelgkkomfjjkpaa", sum := "ad34f3347870d9200829149f8ca3fa7a795e0c5349fcbbaaf2ca4414917ecbaa", func := "cubbyhole/cubbyholelaw30.LfuCounts", spec := "lfuCounts", unfollowed := true, recurses := true, apart := false }
def LfuCountsSaid : Prop := lfuCountsRow.holds Try.pinned (OpenSpec.ofChange lfuCountsSpec)

/-- ITS FALSE NEIGHBOUR: 'it returns false'. Refute it at one input. -/
def lfuCountsWrong : ChangeSpec := { name := "lfuCounts", fn := fun _ => fun
  | [d1, d2] => { results := [.lit (.bool false)], args := [d1, d2] }
  | _ => none }
def LfuCountsWrongFalsely : Prop := lfuCountsRow.holds Try.pinned (OpenSpec.ofChange lfuCountsWrong)

/-- 'cubbyholelaw31.SecondNew': WHATEVER THE INPUT: true; the input reads as it did. -/
def secondNewSpec : ChangeSpec := { name := "secondNew", fn := fun _ => fun
  | [d] => { results := [.lit (.bool true)], args := [d] }
  | _ => none }
def secondNewRow : OpenClaim := { program := "ytelgkkomfjjkpaa", sum := "ad34f3347870d9200829149f8ca3fa7a795e0c5349fcbbaaf2ca4414917ecbaa", func := "cubbyhole/cubbyholelaw31.SecondNew", spec := "secondNew", unfollowed := true, recurses := true, apart := false }
def SecondNewSaid : Prop := secondNewRow.holds Try.pinned (OpenSpec.ofChange secondNewSpec)

/-- ITS FALSE NEIGHBOUR: 'it returns false'. Refute it at one input. -/
def secondNewWrong : ChangeSpec := { name := "secondNew", fn := fun _ => fun
  | [d] => { results := [.lit (.bool false)], args := [d] }
  | _ => none }
def SecondNewWrongFalsely : Prop := secondNewRow.holds Try.pinned (OpenSpec.ofChange secondNewWrong)

/-- 'cubbyholelaw32.TwoqNew': WHATEVER THE INPUT: true; the input reads as it did. -/
def twoqNewSpec : ChangeSpec := { name := "twoqNew", fn := fun _ => fun
  | [d1, d2, d3] => { results := [.lit (.bool true)], args := [d1, d2, d3] }
  | _ => none }
def twoqNewRow : OpenClaim := { program := "ytelgkkomfjjkpaa", sum := "ad34f3347870d9200829149f8ca3fa7a795e0c5349fcbbaaf2ca4414917ecbaa", func := "cubbyhole/cubbyholelaw32.TwoqNew", spec := "twoqNew", unfollowed := true, recurses := true, apart := false }
def TwoqNewSaid : Prop := twoqNewRow.holds Try.pinned (OpenSpec.ofChange twoqNewSpec)

/-- ITS FALSE NEIGHBOUR: 'it returns false'. Refute it at one input. -/
def twoqNewWrong : ChangeSpec := { name := "twoqNew", fn := fun _ => fun
  | [d1, d2, d3] => { results := [.lit (.bool false)], args := [d1, d2, d3] }
  | _ => none }
def TwoqNewWrongFalsely : Prop := twoqNewRow.holds Try.pinned (OpenSpec.ofChange twoqNewWrong)

/-- 'cubbyholelaw33.SketchNew': WHATEVER THE INPUT: true; the input reads as it did. -/
def sketchNewSpec : ChangeSpec := { name := "sketchNew", fn := fun _ => fun
  | [d1, d2, d3] => { results := [.lit (.bool true)], args := [d1, d2, d3] }
  | _ => none }
def sketchNewRow : OpenClaim := { program := "ytelgkkomfjjkpaa", sum := "ad34f3347870d9200829149f8ca3fa7a795e0c5349fcbbaaf2ca4414917ecbaa", func := "cubbyhole/cubbyholelaw33.SketchNew", spec := "sketchNew", apart := false }
def SketchNewSaid : Prop := sketchNewRow.holds Try.pinned (OpenSpec.ofChange sketchNewSpec)

/-- ITS FALSE NEIGHBOUR: 'it returns false'. Refute it at one input. -/
def sketchNewWrong : ChangeSpec := { name := "sketchNew", fn := fun _ => fun
  | [d1, d2, d3] => { results := [.lit (.bool false)], args := [d1, d2, d3] }
  | _ => none }
def SketchNewWrongFalsely : Prop := sketchNewRow.holds Try.pinned (OpenSpec.ofChange sketchNewWrong)

/-- 'cubbyholelaw34.BloomNew': WHATEVER THE INPUT: true; the input reads as it did. -/
def bloomNewSpec : ChangeSpec := { name := "bloomNew", fn := fun _ => fun
  | [d1, d2, d3] => { results := [.lit (.bool true)], args := [d1, d2, d3] }
  | _ => none }
def bloomNewRow : OpenClaim := { program := "ytelgkkomfjjkpaa", sum := "ad34f3347870d9200829149f8ca3fa7a795e0c5349fcbbaaf2ca4414917ecbaa", func := "cubbyhole/cubbyholelaw34.BloomNew", spec := "bloomNew", unfollowed := true, recurses := true, apart := false }
def BloomNewSaid : Prop := bloomNewRow.holds Try.pinned (OpenSpec.ofChange bloomNewSpec)

/-- ITS FALSE NEIGHBOUR: 'it returns false'. Refute it at one input. -/
def bloomNewWrong : ChangeSpec := { name := "bloomNew", fn := fun _ => fun
  | [d1, d2, d3] => { results := [.lit (.bool false)], args := [d1, d2, d3] }
  | _ => none }
def BloomNewWrongFalsely : Prop := bloomNewRow.holds Try.pinned (OpenSpec.ofChange bloomNewWrong)

/- THE SECOND FORM. 'bulk': how many values and letters a reading holds, each counted each time it is reached (what is shared counts as often as it is met; a slice's spare places count too). A statement '..UptoSaid' is the law's where the arguments, and the package variables that the reading takes, are together of bulk at most 1048576: NARROWER than '..Said'. Prove '..Said' where nothing that the law and all that it calls make is longer than what came in: it says more and counts as full. Else prove '..UptoSaid'. A law counts once. -/
mutual
def uptoBulk {H : Type} : DataW H → Nat
  | .lit (.string bytes) => bytes.length + 1
  | .lit _ => 1
  | .nil => 1
  | .ptr d => uptoBulk d + 1
  | .slice elems spare => uptoBulkAll elems + uptoBulkAll spare + 1
  | .agg parts => uptoBulkAll parts + 1
  | .iface _ d => uptoBulk d + 1
  | .map entries => uptoBulkEntries entries + 1
  | .held _ => 1
def uptoBulkAll {H : Type} : List (DataW H) → Nat
  | [] => 0
  | d :: r => uptoBulk d + uptoBulkAll r
def uptoBulkEntries {H : Type} : List (Lit × DataW H) → Nat
  | [] => 0
  | x :: r => uptoBulkEntry x + uptoBulkEntries r
def uptoBulkEntry {H : Type} : Lit × DataW H → Nat
  | (.string bytes, d) => bytes.length + uptoBulk d + 1
  | (_, d) => uptoBulk d + 1
 end
def uptoSmall : (H : Type) → List (DataW H) → Bool := fun _ ds => decide (uptoBulkAll ds ≤ 1048576)
def OpenSpec.upto (s : _root_.Go.ChangeSpec) : _root_.Go.OpenSpec := { _root_.Go.OpenSpec.ofChange s with cond := some uptoSmall }

/-- 'cubbyholelaw12.BirthCounts', WHERE WHAT IT READS IS OF BULK AT MOST 1048576: true; the input reads as it did. -/
def birthCountsUptoRow : OpenClaim := { program := "ytelgkkomfjjkpaa", sum := "ad34f3347870d9200829149f8ca3fa7a795e0c5349fcbbaaf2ca4414917ecbaa", func := "cubbyhole/cubbyholelaw12.BirthCounts", spec := "birthCounts", unfollowed := true, recurses := true, apart := false, narrowed := true }
def BirthCountsUptoSaid : Prop := birthCountsUptoRow.holds Try.pinned (OpenSpec.upto birthCountsSpec)

/-- 'cubbyholelaw16.SegmentNew', WHERE WHAT IT READS IS OF BULK AT MOST 1048576: true; the input reads as it did. -/
def segmentNewUptoRow : OpenClaim := { program := "ytelgkkomfjjkpaa", sum := "ad34f3347870d9200829149f8ca3fa7a795e0c5349fcbbaaf2ca4414917ecbaa", func := "cubbyhole/cubbyholelaw16.SegmentNew", spec := "segmentNew", unfollowed := true, recurses := true, apart := false, narrowed := true }
def SegmentNewUptoSaid : Prop := segmentNewUptoRow.holds Try.pinned (OpenSpec.upto segmentNewSpec)

/-- 'cubbyholelaw28.GhostNew', WHERE WHAT IT READS IS OF BULK AT MOST 1048576: true; the input reads as it did. -/
def ghostNewUptoRow : OpenClaim := { program := "ytelgkkomfjjkpaa", sum := "ad34f3347870d9200829149f8ca3fa7a795e0c5349fcbbaaf2ca4414917ecbaa", func := "cubbyhole/cubbyholelaw28.GhostNew", spec := "ghostNew", unfollowed := true, recurses := true, apart := false, narrowed := true }
def GhostNewUptoSaid : Prop := ghostNewUptoRow.holds Try.pinned (OpenSpec.upto ghostNewSpec)

/-- 'cubbyholelaw28.GhostFull', WHERE WHAT IT READS IS OF BULK AT MOST 1048576: true; the input reads as it did. -/
def ghostFullUptoRow : OpenClaim := { program := "ytelgkkomfjjkpaa", sum := "ad34f3347870d9200829149f8ca3fa7a795e0c5349fcbbaaf2ca4414917ecbaa", func := "cubbyhole/cubbyholelaw28.GhostFull", spec := "ghostFull", unfollowed := true, recurses := true, apart := false, narrowed := true }
def GhostFullUptoSaid : Prop := ghostFullUptoRow.holds Try.pinned (OpenSpec.upto ghostFullSpec)

/-- 'cubbyholelaw29.ArcNew', WHERE WHAT IT READS IS OF BULK AT MOST 1048576: true; the input reads as it did. -/
def arcNewUptoRow : OpenClaim := { program := "ytelgkkomfjjkpaa", sum := "ad34f3347870d9200829149f8ca3fa7a795e0c5349fcbbaaf2ca4414917ecbaa", func := "cubbyhole/cubbyholelaw29.ArcNew", spec := "arcNew", unfollowed := true, recurses := true, apart := false, narrowed := true }
def ArcNewUptoSaid : Prop := arcNewUptoRow.holds Try.pinned (OpenSpec.upto arcNewSpec)

/-- 'cubbyholelaw30.LfuNew', WHERE WHAT IT READS IS OF BULK AT MOST 1048576: true; the input reads as it did. -/
def lfuNewUptoRow : OpenClaim := { program := "ytelgkkomfjjkpaa", sum := "ad34f3347870d9200829149f8ca3fa7a795e0c5349fcbbaaf2ca4414917ecbaa", func := "cubbyhole/cubbyholelaw30.LfuNew", spec := "lfuNew", unfollowed := true, recurses := true, apart := false, narrowed := true }
def LfuNewUptoSaid : Prop := lfuNewUptoRow.holds Try.pinned (OpenSpec.upto lfuNewSpec)

/-- 'cubbyholelaw30.LfuCounts', WHERE WHAT IT READS IS OF BULK AT MOST 1048576: true; the input reads as it did. -/
def lfuCountsUptoRow : OpenClaim := { program := "ytelgkkomfjjkpaa", sum := "ad34f3347870d9200829149f8ca3fa7a795e0c5349fcbbaaf2ca4414917ecbaa", func := "cubbyhole/cubbyholelaw30.LfuCounts", spec := "lfuCounts", unfollowed := true, recurses := true, apart := false, narrowed := true }
def LfuCountsUptoSaid : Prop := lfuCountsUptoRow.holds Try.pinned (OpenSpec.upto lfuCountsSpec)

/-- 'cubbyholelaw31.SecondNew', WHERE WHAT IT READS IS OF BULK AT MOST 1048576: true; the input reads as it did. -/
def secondNewUptoRow : OpenClaim := { program := "ytelgkkomfjjkpaa", sum := "ad34f3347870d9200829149f8ca3fa7a795e0c5349fcbbaaf2ca4414917ecbaa", func := "cubbyhole/cubbyholelaw31.SecondNew", spec := "secondNew", unfollowed := true, recurses := true, apart := false, narrowed := true }
def SecondNewUptoSaid : Prop := secondNewUptoRow.holds Try.pinned (OpenSpec.upto secondNewSpec)

/-- 'cubbyholelaw32.TwoqNew', WHERE WHAT IT READS IS OF BULK AT MOST 1048576: true; the input reads as it did. -/
def twoqNewUptoRow : OpenClaim := { program := "ytelgkkomfjjkpaa", sum := "ad34f3347870d9200829149f8ca3fa7a795e0c5349fcbbaaf2ca4414917ecbaa", func := "cubbyhole/cubbyholelaw32.TwoqNew", spec := "twoqNew", unfollowed := true, recurses := true, apart := false, narrowed := true }
def TwoqNewUptoSaid : Prop := twoqNewUptoRow.holds Try.pinned (OpenSpec.upto twoqNewSpec)

/-- 'cubbyholelaw33.SketchNew', WHERE WHAT IT READS IS OF BULK AT MOST 1048576: true; the input reads as it did. -/
def sketchNewUptoRow : OpenClaim := { program := "ytelgkkomfjjkpaa", sum := "ad34f3347870d9200829149f8ca3fa7a795e0c5349fcbbaaf2ca4414917ecbaa", func := "cubbyhole/cubbyholelaw33.SketchNew", spec := "sketchNew", apart := false, narrowed := true }
def SketchNewUptoSaid : Prop := sketchNewUptoRow.holds Try.pinned (OpenSpec.upto sketchNewSpec)

/-- 'cubbyholelaw34.BloomNew', WHERE WHAT IT READS IS OF BULK AT MOST 1048576: true; the input reads as it did. -/
def bloomNewUptoRow : OpenClaim := { program := "ytelgkkomfjjkpaa", sum := "ad34f3347870d9200829149f8ca3fa7a795e0c5349fcbbaaf2ca4414917ecbaa", func := "cubbyhole/cubbyholelaw34.BloomNew", spec := "bloomNew", unfollowed := true, recurses := true, apart := false, narrowed := true }
def BloomNewUptoSaid : Prop := bloomNewUptoRow.holds Try.pinned (OpenSpec.upto bloomNewSpec)

end Rows
end Go.Proofs.Ytelgkkomfjjkpaa
