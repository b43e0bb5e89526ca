/-
  No cell of these rows narrows 'for every input' (looked for: loops, veiled, ifaces, maps, wideKeys, modest, calm, conditions, laid).
  DERIVED. THE GIVEN ROWS OF THIS SEAT. 9 by the template 'for every input the law returns true; each argument reads behind the call as it read before'; 0 by the template 'total and deterministic' (their statements: YtjifcnmohbcjpaaTotals.lean).
  GIVEN WITH THE SEED: the statements are not yours to turn. If you find one false, say at which input.
  Laid BY PROGRAM, IN A SANDBOX (cutbox-rows.mjs): the forced cells as the released guide's own fill.sh prints them over the translation c5b32325686779a7… (all of the seat's roots in one cut). By AI agents, Wed Nov 11 2026. No macro, syntax, notation, axiom, sorry.
-/
import Derived.Test.YtjifcnmohbcjpaaChecked
import GoSem.Claim
import GoSem.ClaimJoined
import GoSem.ClaimMapViews
import Derived.JoinedTies
import Derived.KernelRfl
namespace Go.Proofs.Ytjifcnmohbcjpaa
/- THE CELL 'sum', in the pinned program and in every row, IS THE sha256 OF THE DUMP (.gsa) THAT YtjifcnmohbcjpaaProg.lean LOADS. Nothing in Lean hashes anything: it is a label: what it is worth is what the hold of that sum in a sandbox is worth. -/
noncomputable def Try.pinned : Pinned := { name := "ytjifcnmohbcjpaa", sum := "c5b32325686779a7ec1646a4af90731d207abdeab67cd2a7d1cb6691bb523959", checked := Try.checked }
namespace Rows
def none {H : Type} : Left H := { results := [], args := [] }

/-- 'cubbyholelaw07.SwissNil': WHATEVER THE INPUT: true; the input reads as it did. -/
def swissNilSpec : ChangeSpec := { name := "swissNil", fn := fun _ => fun
  | [d1, d2, d3] => { results := [.lit (.bool true)], args := [d1, d2, d3] }
  | _ => none }
def swissNilRow : OpenClaim := { program := "ytjifcnmohbcjpaa", sum := "c5b32325686779a7ec1646a4af90731d207abdeab67cd2a7d1cb6691bb523959", func := "cubbyhole/cubbyholelaw07.SwissNil", spec := "swissNil", unfollowed := true, recurses := true, apart := false }
def SwissNilSaid : Prop := swissNilRow.holds Try.pinned (OpenSpec.ofChange swissNilSpec)

/-- ITS FALSE NEIGHBOUR: 'it returns false'. Refute it at one input. -/
def swissNilWrong : ChangeSpec := { name := "swissNil", fn := fun _ => fun
  | [d1, d2, d3] => { results := [.lit (.bool false)], args := [d1, d2, d3] }
  | _ => none }
def SwissNilWrongFalsely : Prop := swissNilRow.holds Try.pinned (OpenSpec.ofChange swissNilWrong)

/-- 'cubbyholelaw14.LinksNil': WHATEVER THE INPUT: true; the input reads as it did. -/
def linksNilSpec : ChangeSpec := { name := "linksNil", fn := fun _ => fun
  | [d1, d2] => { results := [.lit (.bool true)], args := [d1, d2] }
  | _ => none }
def linksNilRow : OpenClaim := { program := "ytjifcnmohbcjpaa", sum := "c5b32325686779a7ec1646a4af90731d207abdeab67cd2a7d1cb6691bb523959", func := "cubbyhole/cubbyholelaw14.LinksNil", spec := "linksNil", unfollowed := true, recurses := true, apart := false }
def LinksNilSaid : Prop := linksNilRow.holds Try.pinned (OpenSpec.ofChange linksNilSpec)

/-- ITS FALSE NEIGHBOUR: 'it returns false'. Refute it at one input. -/
def linksNilWrong : ChangeSpec := { name := "linksNil", fn := fun _ => fun
  | [d1, d2] => { results := [.lit (.bool false)], args := [d1, d2] }
  | _ => none }
def LinksNilWrongFalsely : Prop := linksNilRow.holds Try.pinned (OpenSpec.ofChange linksNilWrong)

/-- 'cubbyholelaw15.LruNil': WHATEVER THE INPUT: true; the input reads as it did. -/
def lruNilSpec : ChangeSpec := { name := "lruNil", fn := fun _ => fun
  | [d] => { results := [.lit (.bool true)], args := [d] }
  | _ => none }
def lruNilRow : OpenClaim := { program := "ytjifcnmohbcjpaa", sum := "c5b32325686779a7ec1646a4af90731d207abdeab67cd2a7d1cb6691bb523959", func := "cubbyhole/cubbyholelaw15.LruNil", spec := "lruNil", unfollowed := true, recurses := true, apart := false }
def LruNilSaid : Prop := lruNilRow.holds Try.pinned (OpenSpec.ofChange lruNilSpec)

/-- ITS FALSE NEIGHBOUR: 'it returns false'. Refute it at one input. -/
def lruNilWrong : ChangeSpec := { name := "lruNil", fn := fun _ => fun
  | [d] => { results := [.lit (.bool false)], args := [d] }
  | _ => none }
def LruNilWrongFalsely : Prop := lruNilRow.holds Try.pinned (OpenSpec.ofChange lruNilWrong)

/-- 'cubbyholelaw16.SegmentNil': WHATEVER THE INPUT: true; the input reads as it did. -/
def segmentNilSpec : ChangeSpec := { name := "segmentNil", fn := fun _ => fun
  | [d1, d2] => { results := [.lit (.bool true)], args := [d1, d2] }
  | _ => none }
def segmentNilRow : OpenClaim := { program := "ytjifcnmohbcjpaa", sum := "c5b32325686779a7ec1646a4af90731d207abdeab67cd2a7d1cb6691bb523959", func := "cubbyhole/cubbyholelaw16.SegmentNil", spec := "segmentNil", unfollowed := true, recurses := true, apart := false }
def SegmentNilSaid : Prop := segmentNilRow.holds Try.pinned (OpenSpec.ofChange segmentNilSpec)

/-- ITS FALSE NEIGHBOUR: 'it returns false'. Refute it at one input. -/
def segmentNilWrong : ChangeSpec := { name := "segmentNil", fn := fun _ => fun
  | [d1, d2] => { results := [.lit (.bool false)], args := [d1, d2] }
  | _ => none }
def SegmentNilWrongFalsely : Prop := segmentNilRow.holds Try.pinned (OpenSpec.ofChange segmentNilWrong)

/-- 'cubbyholelaw28.GhostNone': WHATEVER THE INPUT: true; the input reads as it did. -/
def ghostNoneSpec : ChangeSpec := { name := "ghostNone", fn := fun _ => fun
  | [d1, d2] => { results := [.lit (.bool true)], args := [d1, d2] }
  | _ => none }
def ghostNoneRow : OpenClaim := { program := "ytjifcnmohbcjpaa", sum := "c5b32325686779a7ec1646a4af90731d207abdeab67cd2a7d1cb6691bb523959", func := "cubbyhole/cubbyholelaw28.GhostNone", spec := "ghostNone", inPlace := ["maps.clone"], unfollowed := true, recurses := true, apart := false }
def GhostNoneSaid : Prop := ghostNoneRow.holds Try.pinned (OpenSpec.ofChange ghostNoneSpec)

/-- ITS FALSE NEIGHBOUR: 'it returns false'. Refute it at one input. -/
def ghostNoneWrong : ChangeSpec := { name := "ghostNone", fn := fun _ => fun
  | [d1, d2] => { results := [.lit (.bool false)], args := [d1, d2] }
  | _ => none }
def GhostNoneWrongFalsely : Prop := ghostNoneRow.holds Try.pinned (OpenSpec.ofChange ghostNoneWrong)

/-- 'cubbyholelaw29.ArcNone': WHATEVER THE INPUT: true; the input reads as it did. -/
def arcNoneSpec : ChangeSpec := { name := "arcNone", fn := fun _ => fun
  | [d] => { results := [.lit (.bool true)], args := [d] }
  | _ => none }
def arcNoneRow : OpenClaim := { program := "ytjifcnmohbcjpaa", sum := "c5b32325686779a7ec1646a4af90731d207abdeab67cd2a7d1cb6691bb523959", func := "cubbyhole/cubbyholelaw29.ArcNone", spec := "arcNone", inPlace := ["maps.clone"], unfollowed := true, recurses := true, apart := false }
def ArcNoneSaid : Prop := arcNoneRow.holds Try.pinned (OpenSpec.ofChange arcNoneSpec)

/-- ITS FALSE NEIGHBOUR: 'it returns false'. Refute it at one input. -/
def arcNoneWrong : ChangeSpec := { name := "arcNone", fn := fun _ => fun
  | [d] => { results := [.lit (.bool false)], args := [d] }
  | _ => none }
def ArcNoneWrongFalsely : Prop := arcNoneRow.holds Try.pinned (OpenSpec.ofChange arcNoneWrong)

/-- 'cubbyholelaw30.LfuNone': WHATEVER THE INPUT: true; the input reads as it did. -/
def lfuNoneSpec : ChangeSpec := { name := "lfuNone", fn := fun _ => fun
  | [d] => { results := [.lit (.bool true)], args := [d] }
  | _ => none }
def lfuNoneRow : OpenClaim := { program := "ytjifcnmohbcjpaa", sum := "c5b32325686779a7ec1646a4af90731d207abdeab67cd2a7d1cb6691bb523959", func := "cubbyhole/cubbyholelaw30.LfuNone", spec := "lfuNone", inPlace := ["maps.clone"], unfollowed := true, recurses := true, apart := false }
def LfuNoneSaid : Prop := lfuNoneRow.holds Try.pinned (OpenSpec.ofChange lfuNoneSpec)

/-- ITS FALSE NEIGHBOUR: 'it returns false'. Refute it at one input. -/
def lfuNoneWrong : ChangeSpec := { name := "lfuNone", fn := fun _ => fun
  | [d] => { results := [.lit (.bool false)], args := [d] }
  | _ => none }
def LfuNoneWrongFalsely : Prop := lfuNoneRow.holds Try.pinned (OpenSpec.ofChange lfuNoneWrong)

/-- 'cubbyholelaw31.SecondNone': WHATEVER THE INPUT: true; the input reads as it did. -/
def secondNoneSpec : ChangeSpec := { name := "secondNone", fn := fun _ => fun
  | [d] => { results := [.lit (.bool true)], args := [d] }
  | _ => none }
def secondNoneRow : OpenClaim := { program := "ytjifcnmohbcjpaa", sum := "c5b32325686779a7ec1646a4af90731d207abdeab67cd2a7d1cb6691bb523959", func := "cubbyhole/cubbyholelaw31.SecondNone", spec := "secondNone", inPlace := ["maps.clone"], unfollowed := true, recurses := true, apart := false }
def SecondNoneSaid : Prop := secondNoneRow.holds Try.pinned (OpenSpec.ofChange secondNoneSpec)

/-- ITS FALSE NEIGHBOUR: 'it returns false'. Refute it at one input. -/
def secondNoneWrong : ChangeSpec := { name := "secondNone", fn := fun _ => fun
  | [d] => { results := [.lit (.bool false)], args := [d] }
  | _ => none }
def SecondNoneWrongFalsely : Prop := secondNoneRow.holds Try.pinned (OpenSpec.ofChange secondNoneWrong)

/-- 'cubbyholelaw32.TwoqNone': WHATEVER THE INPUT: true; the input reads as it did. -/
def twoqNoneSpec : ChangeSpec := { name := "twoqNone", fn := fun _ => fun
  | [d] => { results := [.lit (.bool true)], args := [d] }
  | _ => none }
def twoqNoneRow : OpenClaim := { program := "ytjifcnmohbcjpaa", sum := "c5b32325686779a7ec1646a4af90731d207abdeab67cd2a7d1cb6691bb523959", func := "cubbyhole/cubbyholelaw32.TwoqNone", spec := "twoqNone", inPlace := ["maps.clone"], unfollowed := true, recurses := true, apart := false }
def TwoqNoneSaid : Prop := twoqNoneRow.holds Try.pinned (OpenSpec.ofChange twoqNoneSpec)

/-- ITS FALSE NEIGHBOUR: 'it returns false'. Refute it at one input. -/
def twoqNoneWrong : ChangeSpec := { name := "twoqNone", fn := fun _ => fun
  | [d] => { results := [.lit (.bool false)], args := [d] }
  | _ => none }
def TwoqNoneWrongFalsely : Prop := twoqNoneRow.holds Try.pinned (OpenSpec.ofChange twoqNoneWrong)

/- THE SECOND FORM. 'bulk': how many values and letters a reading holds, each counted each time it is reached (what is shared counts as often as it is met; a slice's spare places count too). A statement '..UptoSaid' is the law's where the arguments, and the package variables that the reading takes, are together of bulk at most 1048576: NARROWER than '..Said'. Prove '..Said' where nothing that the law and all that it calls make is longer than what came in: it says more and counts as full. Else prove '..UptoSaid'. A law counts once. -/
mutual
def uptoBulk {H : Type} : DataW H → Nat
  | .lit (.string bytes) => bytes.length + 1
  | .lit _ => 1
  | .nil => 1
  | .ptr d => uptoBulk d + 1
  | .slice elems spare => uptoBulkAll elems + uptoBulkAll spare + 1
  | .agg parts => uptoBulkAll parts + 1
  | .iface _ d => uptoBulk d + 1
  | .map entries => uptoBulkEntries entries + 1
  | .held _ => 1
def uptoBulkAll {H : Type} : List (DataW H) → Nat
  | [] => 0
  | d :: r => uptoBulk d + uptoBulkAll r
def uptoBulkEntries {H : Type} : List (Lit × DataW H) → Nat
  | [] => 0
  | x :: r => uptoBulkEntry x + uptoBulkEntries r
def uptoBulkEntry {H : Type} : Lit × DataW H → Nat
  | (.string bytes, d) => bytes.length + uptoBulk d + 1
  | (_, d) => uptoBulk d + 1
 end
def uptoSmall : (H : Type) → List (DataW H) → Bool := fun _ ds => decide (uptoBulkAll ds ≤ 1048576)
def OpenSpec.upto (s : _root_.Go.ChangeSpec) : _root_.Go.OpenSpec := { _root_.Go.OpenSpec.ofChange s with cond := some uptoSmall }

/-- 'cubbyholelaw07.SwissNil', WHERE WHAT IT READS IS OF BULK AT MOST 1048576: true; the input reads as it did. -/
def swissNilUptoRow : OpenClaim := { program := "ytjifcnmohbcjpaa", sum := "c5b32325686779a7ec1646a4af90731d207abdeab67cd2a7d1cb6691bb523959", func := "cubbyhole/cubbyholelaw07.SwissNil", spec := "swissNil", unfollowed := true, recurses := true, apart := false, narrowed := true }
def SwissNilUptoSaid : Prop := swissNilUptoRow.holds Try.pinned (OpenSpec.upto swissNilSpec)

/-- 'cubbyholelaw14.LinksNil', WHERE WHAT IT READS IS OF BULK AT MOST 1048576: true; the input reads as it did. -/
def linksNilUptoRow : OpenClaim := { program := "ytjifcnmohbcjpaa", sum := "c5b32325686779a7ec1646a4af90731d207abdeab67cd2a7d1cb6691bb523959", func := "cubbyhole/cubbyholelaw14.LinksNil", spec := "linksNil", unfollowed := true, recurses := true, apart := false, narrowed := true }
def LinksNilUptoSaid : Prop := linksNilUptoRow.holds Try.pinned (OpenSpec.upto linksNilSpec)

/-- 'cubbyholelaw15.LruNil', WHERE WHAT IT READS IS OF BULK AT MOST 1048576: true; the input reads as it did. -/
def lruNilUptoRow : OpenClaim := { program := "ytjifcnmohbcjpaa", sum := "c5b32325686779a7ec1646a4af90731d207abdeab67cd2a7d1cb6691bb523959", func := "cubbyhole/cubbyholelaw15.LruNil", spec := "lruNil", unfollowed := true, recurses := true, apart := false, narrowed := true }
def LruNilUptoSaid : Prop := lruNilUptoRow.holds Try.pinned (OpenSpec.upto lruNilSpec)

/-- 'cubbyholelaw16.SegmentNil', WHERE WHAT IT READS IS OF BULK AT MOST 1048576: true; the input reads as it did. -/
def segmentNilUptoRow : OpenClaim := { program := "ytjifcnmohbcjpaa", sum := "c5b32325686779a7ec1646a4af90731d207abdeab67cd2a7d1cb6691bb523959", func := "cubbyhole/cubbyholelaw16.SegmentNil", spec := "segmentNil", unfollowed := true, recurses := true, apart := false, narrowed := true }
def SegmentNilUptoSaid : Prop := segmentNilUptoRow.holds Try.pinned (OpenSpec.upto segmentNilSpec)

/-- 'cubbyholelaw28.GhostNone', WHERE WHAT IT READS IS OF BULK AT MOST 1048576: true; the input reads as it did. -/
def ghostNoneUptoRow : OpenClaim := { program := "ytjifcnmohbcjpaa", sum := "c5b32325686779a7ec1646a4af90731d207abdeab67cd2a7d1cb6691bb523959", func := "cubbyhole/cubbyholelaw28.GhostNone", spec := "ghostNone", inPlace := ["maps.clone"], unfollowed := true, recurses := true, apart := false, narrowed := true }
def GhostNoneUptoSaid : Prop := ghostNoneUptoRow.holds Try.pinned (OpenSpec.upto ghostNoneSpec)

/-- 'cubbyholelaw29.ArcNone', WHERE WHAT IT READS IS OF BULK AT MOST 1048576: true; the input reads as it did. -/
def arcNoneUptoRow : OpenClaim := { program := "ytjifcnmohbcjpaa", sum := "c5b32325686779a7ec1646a4af90731d207abdeab67cd2a7d1cb6691bb523959", func := "cubbyhole/cubbyholelaw29.ArcNone", spec := "arcNone", inPlace := ["maps.clone"], unfollowed := true, recurses := true, apart := false, narrowed := true }
def ArcNoneUptoSaid : Prop := arcNoneUptoRow.holds Try.pinned (OpenSpec.upto arcNoneSpec)

/-- 'cubbyholelaw30.LfuNone', WHERE WHAT IT READS IS OF BULK AT MOST 1048576: true; the input reads as it did. -/
def lfuNoneUptoRow : OpenClaim := { program := "ytjifcnmohbcjpaa", sum := "c5b32325686779a7ec1646a4af90731d207abdeab67cd2a7d1cb6691bb523959", func := "cubbyhole/cubbyholelaw30.LfuNone", spec := "lfuNone", inPlace := ["maps.clone"], unfollowed := true, recurses := true, apart := false, narrowed := true }
def LfuNoneUptoSaid : Prop := lfuNoneUptoRow.holds Try.pinned (OpenSpec.upto lfuNoneSpec)

/-- 'cubbyholelaw31.SecondNone', WHERE WHAT IT READS IS OF BULK AT MOST 1048576: true; the input reads as it did. -/
def secondNoneUptoRow : OpenClaim := { program := "ytjifcnmohbcjpaa", sum := "c5b32325686779a7ec1646a4af90731d207abdeab67cd2a7d1cb6691bb523959", func := "cubbyhole/cubbyholelaw31.SecondNone", spec := "secondNone", inPlace := ["maps.clone"], unfollowed := true, recurses := true, apart := false, narrowed := true }
def SecondNoneUptoSaid : Prop := secondNoneUptoRow.holds Try.pinned (OpenSpec.upto secondNoneSpec)

/-- 'cubbyholelaw32.TwoqNone', WHERE WHAT IT READS IS OF BULK AT MOST 1048576: true; the input reads as it did. -/
def twoqNoneUptoRow : OpenClaim := { program := "ytjifcnmohbcjpaa", sum := "c5b32325686779a7ec1646a4af90731d207abdeab67cd2a7d1cb6691bb523959", func := "cubbyhole/cubbyholelaw32.TwoqNone", spec := "twoqNone", inPlace := ["maps.clone"], unfollowed := true, recurses := true, apart := false, narrowed := true }
def TwoqNoneUptoSaid : Prop := twoqNoneUptoRow.holds Try.pinned (OpenSpec.upto twoqNoneSpec)

end Rows
end Go.Proofs.Ytjifcnmohbcjpaa
