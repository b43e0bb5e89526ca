/-
  No cell of these rows narrows 'for every input' (looked for: loops, veiled, ifaces, maps, wideKeys, modest, calm, conditions, laid).
  DERIVED. THE GIVEN ROWS OF THIS SEAT. 3 by the template 'for every input the law returns true; each argument reads behind the call as it read before'; 0 by the template 'total and deterministic' (their statements: YtdcjmebgcojnmaaTotals.lean).
  GIVEN WITH THE SEED: the statements are not yours to turn. If you find one false, say at which input.
  Laid BY PROGRAM, IN A SANDBOX (cutbox-rows.mjs): the forced cells as the released guide's own fill.sh prints them over the translation 26bca694e73eb30b… (all of the seat's roots in one cut). By AI agents, Wed Nov 11 2026. No macro, syntax, notation, axiom, sorry.
-/
import Derived.Test.YtdcjmebgcojnmaaChecked
import GoSem.Claim
import GoSem.ClaimJoined
import GoSem.ClaimMapViews
import Derived.JoinedTies
import Derived.KernelRfl
namespace Go.Proofs.Ytdcjmebgcojnmaa
/- THE CELL 'sum', in the pinned program and in every row, IS THE sha256 OF THE DUMP (.gsa) THAT YtdcjmebgcojnmaaProg.lean LOADS. Nothing in Lean hashes anything: it is a label: what it is worth is what the hold of that sum in a sandbox is worth. -/
noncomputable def Try.pinned : Pinned := { name := "ytdcjmebgcojnmaa", sum := "26bca694e73eb30bf4ec54ec856a11a47bdc622707df3f71cc7f2eba386f7069", checked := Try.checked }
namespace Rows
def none {H : Type} : Left H := { results := [], args := [] }

/-- 'cubbyholelaw15.LruNil': WHATEVER THE INPUT: true; the input reads as it did. -/
def lruNilSpec : ChangeSpec := { name := "lruNil", fn := fun _ => fun
  | [d] => { results := [.lit (.bool true)], args := [d] }
  | _ => none }
def lruNilRow : OpenClaim := { program := "ytdcjmebgcojnmaa", sum := "26bca694e73eb30bf4ec54ec856a11a47bdc622707df3f71cc7f2eba386f7069", func := "cubbyhole/cubbyholelaw15.LruNil", spec := "lruNil", unfollowed := true, recurses := true, apart := false }
def LruNilSaid : Prop := lruNilRow.holds Try.pinned (OpenSpec.ofChange lruNilSpec)

/-- ITS FALSE NEIGHBOUR: 'it returns false'. Refute it at one input. -/
def lruNilWrong : ChangeSpec := { name := "lruNil", fn := fun _ => fun
  | [d] => { results := [.lit (.bool false)], args := [d] }
  | _ => none }
def LruNilWrongFalsely : Prop := lruNilRow.holds Try.pinned (OpenSpec.ofChange lruNilWrong)

/-- 'cubbyholelaw30.LfuNone': WHATEVER THE INPUT: true; the input reads as it did. -/
def lfuNoneSpec : ChangeSpec := { name := "lfuNone", fn := fun _ => fun
  | [d] => { results := [.lit (.bool true)], args := [d] }
  | _ => none }
def lfuNoneRow : OpenClaim := { program := "ytdcjmebgcojnmaa", sum := "26bca694e73eb30bf4ec54ec856a11a47bdc622707df3f71cc7f2eba386f7069", func := "cubbyhole/cubbyholelaw30.LfuNone", spec := "lfuNone", inPlace := ["maps.clone"], unfollowed := true, recurses := true, apart := false }
def LfuNoneSaid : Prop := lfuNoneRow.holds Try.pinned (OpenSpec.ofChange lfuNoneSpec)

/-- ITS FALSE NEIGHBOUR: 'it returns false'. Refute it at one input. -/
def lfuNoneWrong : ChangeSpec := { name := "lfuNone", fn := fun _ => fun
  | [d] => { results := [.lit (.bool false)], args := [d] }
  | _ => none }
def LfuNoneWrongFalsely : Prop := lfuNoneRow.holds Try.pinned (OpenSpec.ofChange lfuNoneWrong)

/-- 'cubbyholelaw30.LfuCounts': WHATEVER THE INPUT: true; the input reads as it did. -/
def lfuCountsSpec : ChangeSpec := { name := "lfuCounts", fn := fun _ => fun
  | [d1, d2] => { results := [.lit (.bool true)], args := [d1, d2] }
  | _ => none }
def lfuCountsRow : OpenClaim := { program := "ytdcjmebgcojnmaa", sum := "26bca694e73eb30bf4ec54ec856a11a47bdc622707df3f71cc7f2eba386f7069", func := "cubbyhole/cubbyholelaw30.LfuCounts", spec := "lfuCounts", unfollowed := true, recurses := true, apart := false }
def LfuCountsSaid : Prop := lfuCountsRow.holds Try.pinned (OpenSpec.ofChange lfuCountsSpec)

/-- ITS FALSE NEIGHBOUR: 'it returns false'. Refute it at one input. -/
def lfuCountsWrong : ChangeSpec := { name := "lfuCounts", fn := fun _ => fun
  | [d1, d2] => { results := [.lit (.bool false)], args := [d1, d2] }
  | _ => none }
def LfuCountsWrongFalsely : Prop := lfuCountsRow.holds Try.pinned (OpenSpec.ofChange lfuCountsWrong)

/- THE SECOND FORM. 'bulk': how many values and letters a reading holds, each counted each time it is reached (what is shared counts as often as it is met; a slice's spare places count too). A statement '..UptoSaid' is the law's where the arguments, and the package variables that the reading takes, are together of bulk at most 1048576: NARROWER than '..Said'. Prove '..Said' where nothing that the law and all that it calls make is longer than what came in: it says more and counts as full. Else prove '..UptoSaid'. A law counts once. -/
mutual
def uptoBulk {H : Type} : DataW H → Nat
  | .lit (.string bytes) => bytes.length + 1
  | .lit _ => 1
  | .nil => 1
  | .ptr d => uptoBulk d + 1
  | .slice elems spare => uptoBulkAll elems + uptoBulkAll spare + 1
  | .agg parts => uptoBulkAll parts + 1
  | .iface _ d => uptoBulk d + 1
  | .map entries => uptoBulkEntries entries + 1
  | .held _ => 1
def uptoBulkAll {H : Type} : List (DataW H) → Nat
  | [] => 0
  | d :: r => uptoBulk d + uptoBulkAll r
def uptoBulkEntries {H : Type} : List (Lit × DataW H) → Nat
  | [] => 0
  | x :: r => uptoBulkEntry x + uptoBulkEntries r
def uptoBulkEntry {H : Type} : Lit × DataW H → Nat
  | (.string bytes, d) => bytes.length + uptoBulk d + 1
  | (_, d) => uptoBulk d + 1
 end
def uptoSmall : (H : Type) → List (DataW H) → Bool := fun _ ds => decide (uptoBulkAll ds ≤ 1048576)
def OpenSpec.upto (s : _root_.Go.ChangeSpec) : _root_.Go.OpenSpec := { _root_.Go.OpenSpec.ofChange s with cond := some uptoSmall }

/-- 'cubbyholelaw15.LruNil', WHERE WHAT IT READS IS OF BULK AT MOST 1048576: true; the input reads as it did. -/
def lruNilUptoRow : OpenClaim := { program := "ytdcjmebgcojnmaa", sum := "26bca694e73eb30bf4ec54ec856a11a47bdc622707df3f71cc7f2eba386f7069", func := "cubbyhole/cubbyholelaw15.LruNil", spec := "lruNil", unfollowed := true, recurses := true, apart := false, narrowed := true }
def LruNilUptoSaid : Prop := lruNilUptoRow.holds Try.pinned (OpenSpec.upto lruNilSpec)

/-- 'cubbyholelaw30.LfuNone', WHERE WHAT IT READS IS OF BULK AT MOST 1048576: true; the input reads as it did. -/
def lfuNoneUptoRow : OpenClaim := { program := "ytdcjmebgcojnmaa", sum := "26bca694e73eb30bf4ec54ec856a11a47bdc622707df3f71cc7f2eba386f7069", func := "cubbyhole/cubbyholelaw30.LfuNone", spec := "lfuNone", inPlace := ["maps.clone"], unfollowed := true, recurses := true, apart := false, narrowed := true }
def LfuNoneUptoSaid : Prop := lfuNoneUptoRow.holds Try.pinned (OpenSpec.upto lfuNoneSpec)

/-- 'cubbyholelaw30.LfuCounts', WHERE WHAT IT READS IS OF BULK AT MOST 1048576: true; the input reads as it did. -/
def lfuCountsUptoRow : OpenClaim := { program := "ytdcjmebgcojnmaa", sum := "26bca694e73eb30bf4ec54ec856a11a47bdc622707df3f71cc7f2eba386f7069", func := "cubbyhole/cubbyholelaw30.LfuCounts", spec := "lfuCounts", unfollowed := true, recurses := true, apart := false, narrowed := true }
def LfuCountsUptoSaid : Prop := lfuCountsUptoRow.holds Try.pinned (OpenSpec.upto lfuCountsSpec)

end Rows
end Go.Proofs.Ytdcjmebgcojnmaa
