/-
  No cell of these rows narrows 'for every input' (looked for: loops, veiled, ifaces, maps, wideKeys, modest, calm, conditions, laid).
  DERIVED. THE GIVEN ROWS OF THIS SEAT. 7 by the template 'for every input the law returns true; each argument reads behind the call as it read before'; 0 by the template 'total and deterministic' (their statements: YtmdcgpdpkicbpaaTotals.lean).
  GIVEN WITH THE SEED: the statements are not yours to turn. If you find one false, say at which input.
  Laid BY PROGRAM, IN A SANDBOX (cutbox-rows.mjs): the forced cells as the released guide's own fill.sh prints them over the translation c7dc7a43eeaaff31… (all of the seat's roots in one cut). By AI agents, Wed Nov 11 2026. No macro, syntax, notation, axiom, sorry.
-/
import Derived.Test.YtmdcgpdpkicbpaaChecked
import GoSem.Claim
import GoSem.ClaimJoined
import GoSem.ClaimMapViews
import Derived.JoinedTies
import Derived.KernelRfl
namespace Go.Proofs.Ytmdcgpdpkicbpaa
/- THE CELL 'sum', in the pinned program and in every row, IS THE sha256 OF THE DUMP (.gsa) THAT YtmdcgpdpkicbpaaProg.lean LOADS. Nothing in Lean hashes anything: it is a label: what it is worth is what the hold of that sum in a sandbox is worth. -/
noncomputable def Try.pinned : Pinned := { name := "ytmdcgpdpkicbpaa", sum := "c7dc7a43eeaaff31c649d0b8816d1251de8297f6945bcf8f23bd37a980905c2f", checked := Try.checked }
namespace Rows
def none {H : Type} : Left H := { results := [], args := [] }

/-- 'cubbyholelaw07.SwissNil': WHATEVER THE INPUT: true; the input reads as it did. -/
def swissNilSpec : ChangeSpec := { name := "swissNil", fn := fun _ => fun
  | [d1, d2, d3] => { results := [.lit (.bool true)], args := [d1, d2, d3] }
  | _ => none }
def swissNilRow : OpenClaim := { program := "ytmdcgpdpkicbpaa", sum := "c7dc7a43eeaaff31c649d0b8816d1251de8297f6945bcf8f23bd37a980905c2f", func := "cubbyhole/cubbyholelaw07.SwissNil", spec := "swissNil", unfollowed := true, recurses := true, apart := false }
def SwissNilSaid : Prop := swissNilRow.holds Try.pinned (OpenSpec.ofChange swissNilSpec)

/-- ITS FALSE NEIGHBOUR: 'it returns false'. Refute it at one input. -/
def swissNilWrong : ChangeSpec := { name := "swissNil", fn := fun _ => fun
  | [d1, d2, d3] => { results := [.lit (.bool false)], args := [d1, d2, d3] }
  | _ => none }
def SwissNilWrongFalsely : Prop := swissNilRow.holds Try.pinned (OpenSpec.ofChange swissNilWrong)

/-- 'cubbyholelaw09.EntrylogNil': WHATEVER THE INPUT: true; the input reads as it did. -/
def entrylogNilSpec : ChangeSpec := { name := "entrylogNil", fn := fun _ => fun
  | [d1, d2] => { results := [.lit (.bool true)], args := [d1, d2] }
  | _ => none }
def entrylogNilRow : OpenClaim := { program := "ytmdcgpdpkicbpaa", sum := "c7dc7a43eeaaff31c649d0b8816d1251de8297f6945bcf8f23bd37a980905c2f", func := "cubbyhole/cubbyholelaw09.EntrylogNil", spec := "entrylogNil", unfollowed := true, recurses := true, apart := false }
def EntrylogNilSaid : Prop := entrylogNilRow.holds Try.pinned (OpenSpec.ofChange entrylogNilSpec)

/-- ITS FALSE NEIGHBOUR: 'it returns false'. Refute it at one input. -/
def entrylogNilWrong : ChangeSpec := { name := "entrylogNil", fn := fun _ => fun
  | [d1, d2] => { results := [.lit (.bool false)], args := [d1, d2] }
  | _ => none }
def EntrylogNilWrongFalsely : Prop := entrylogNilRow.holds Try.pinned (OpenSpec.ofChange entrylogNilWrong)

/-- 'cubbyholelaw10.DictNil': WHATEVER THE INPUT: true; the input reads as it did. -/
def dictNilSpec : ChangeSpec := { name := "dictNil", fn := fun _ => fun
  | [d1, d2] => { results := [.lit (.bool true)], args := [d1, d2] }
  | _ => none }
def dictNilRow : OpenClaim := { program := "ytmdcgpdpkicbpaa", sum := "c7dc7a43eeaaff31c649d0b8816d1251de8297f6945bcf8f23bd37a980905c2f", func := "cubbyhole/cubbyholelaw10.DictNil", spec := "dictNil", unfollowed := true, recurses := true, apart := false }
def DictNilSaid : Prop := dictNilRow.holds Try.pinned (OpenSpec.ofChange dictNilSpec)

/-- ITS FALSE NEIGHBOUR: 'it returns false'. Refute it at one input. -/
def dictNilWrong : ChangeSpec := { name := "dictNil", fn := fun _ => fun
  | [d1, d2] => { results := [.lit (.bool false)], args := [d1, d2] }
  | _ => none }
def DictNilWrongFalsely : Prop := dictNilRow.holds Try.pinned (OpenSpec.ofChange dictNilWrong)

/-- 'cubbyholelaw12.BirthNil': WHATEVER THE INPUT: true; the input reads as it did. -/
def birthNilSpec : ChangeSpec := { name := "birthNil", fn := fun _ => fun
  | [d] => { results := [.lit (.bool true)], args := [d] }
  | _ => none }
def birthNilRow : OpenClaim := { program := "ytmdcgpdpkicbpaa", sum := "c7dc7a43eeaaff31c649d0b8816d1251de8297f6945bcf8f23bd37a980905c2f", func := "cubbyhole/cubbyholelaw12.BirthNil", spec := "birthNil", unfollowed := true, recurses := true, apart := false }
def BirthNilSaid : Prop := birthNilRow.holds Try.pinned (OpenSpec.ofChange birthNilSpec)

/-- ITS FALSE NEIGHBOUR: 'it returns false'. Refute it at one input. -/
def birthNilWrong : ChangeSpec := { name := "birthNil", fn := fun _ => fun
  | [d] => { results := [.lit (.bool false)], args := [d] }
  | _ => none }
def BirthNilWrongFalsely : Prop := birthNilRow.holds Try.pinned (OpenSpec.ofChange birthNilWrong)

/-- 'cubbyholelaw12.BirthCounts': WHATEVER THE INPUT: true; the input reads as it did. -/
def birthCountsSpec : ChangeSpec := { name := "birthCounts", fn := fun _ => fun
  | [d1, d2, d3] => { results := [.lit (.bool true)], args := [d1, d2, d3] }
  | _ => none }
def birthCountsRow : OpenClaim := { program := "ytmdcgpdpkicbpaa", sum := "c7dc7a43eeaaff31c649d0b8816d1251de8297f6945bcf8f23bd37a980905c2f", func := "cubbyhole/cubbyholelaw12.BirthCounts", spec := "birthCounts", unfollowed := true, recurses := true, apart := false }
def BirthCountsSaid : Prop := birthCountsRow.holds Try.pinned (OpenSpec.ofChange birthCountsSpec)

/-- ITS FALSE NEIGHBOUR: 'it returns false'. Refute it at one input. -/
def birthCountsWrong : ChangeSpec := { name := "birthCounts", fn := fun _ => fun
  | [d1, d2, d3] => { results := [.lit (.bool false)], args := [d1, d2, d3] }
  | _ => none }
def BirthCountsWrongFalsely : Prop := birthCountsRow.holds Try.pinned (OpenSpec.ofChange birthCountsWrong)

/-- 'cubbyholelaw30.LfuNone': WHATEVER THE INPUT: true; the input reads as it did. -/
def lfuNoneSpec : ChangeSpec := { name := "lfuNone", fn := fun _ => fun
  | [d] => { results := [.lit (.bool true)], args := [d] }
  | _ => none }
def lfuNoneRow : OpenClaim := { program := "ytmdcgpdpkicbpaa", sum := "c7dc7a43eeaaff31c649d0b8816d1251de8297f6945bcf8f23bd37a980905c2f", func := "cubbyhole/cubbyholelaw30.LfuNone", spec := "lfuNone", inPlace := ["maps.clone"], unfollowed := true, recurses := true, apart := false }
def LfuNoneSaid : Prop := lfuNoneRow.holds Try.pinned (OpenSpec.ofChange lfuNoneSpec)

/-- ITS FALSE NEIGHBOUR: 'it returns false'. Refute it at one input. -/
def lfuNoneWrong : ChangeSpec := { name := "lfuNone", fn := fun _ => fun
  | [d] => { results := [.lit (.bool false)], args := [d] }
  | _ => none }
def LfuNoneWrongFalsely : Prop := lfuNoneRow.holds Try.pinned (OpenSpec.ofChange lfuNoneWrong)

/-- 'cubbyholelaw30.LfuCounts': WHATEVER THE INPUT: true; the input reads as it did. -/
def lfuCountsSpec : ChangeSpec := { name := "lfuCounts", fn := fun _ => fun
  | [d1, d2] => { results := [.lit (.bool true)], args := [d1, d2] }
  | _ => none }
def lfuCountsRow : OpenClaim := { program := "ytmdcgpdpkicbpaa", sum := "c7dc7a43eeaaff31c649d0b8816d1251de8297f6945bcf8f23bd37a980905c2f", func := "cubbyhole/cubbyholelaw30.LfuCounts", spec := "lfuCounts", unfollowed := true, recurses := true, apart := false }
def LfuCountsSaid : Prop := lfuCountsRow.holds Try.pinned (OpenSpec.ofChange lfuCountsSpec)

/-- ITS FALSE NEIGHBOUR: 'it returns false'. Refute it at one input. -/
def lfuCountsWrong : ChangeSpec := { name := "lfuCounts", fn := fun _ => fun
  | [d1, d2] => { results := [.lit (.bool false)], args := [d1, d2] }
  | _ => none }
def LfuCountsWrongFalsely : Prop := lfuCountsRow.holds Try.pinned (OpenSpec.ofChange lfuCountsWrong)

/- THE SECOND FORM. 'bulk': how many values and letters a reading holds, each counted each time it is reached (what is shared counts as often as it is met; a slice's spare places count too). A statement '..UptoSaid' is the law's where the arguments, and the package variables that the reading takes, are together of bulk at most 1048576: NARROWER than '..Said'. Prove '..Said' where nothing that the law and all that it calls make is longer than what came in: it says more and counts as full. Else prove '..UptoSaid'. A law counts once. -/
mutual
def uptoBulk {H : Type} : DataW H → Nat
  | .lit (.string bytes) => bytes.length + 1
  | .lit _ => 1
  | .nil => 1
  | .ptr d => uptoBulk d + 1
  | .slice elems spare => uptoBulkAll elems + uptoBulkAll spare + 1
  | .agg parts => uptoBulkAll parts + 1
  | .iface _ d => uptoBulk d + 1
  | .map entries => uptoBulkEntries entries + 1
  | .held _ => 1
def uptoBulkAll {H : Type} : List (DataW H) → Nat
  | [] => 0
  | d :: r => uptoBulk d + uptoBulkAll r
def uptoBulkEntries {H : Type} : List (Lit × DataW H) → Nat
  | [] => 0
  | x :: r => uptoBulkEntry x + uptoBulkEntries r
def uptoBulkEntry {H : Type} : Lit × DataW H → Nat
  | (.string bytes, d) => bytes.length + uptoBulk d + 1
  | (_, d) => uptoBulk d + 1
 end
def uptoSmall : (H : Type) → List (DataW H) → Bool := fun _ ds => decide (uptoBulkAll ds ≤ 1048576)
def OpenSpec.upto (s : _root_.Go.ChangeSpec) : _root_.Go.OpenSpec := { _root_.Go.OpenSpec.ofChange s with cond := some uptoSmall }

/-- 'cubbyholelaw07.SwissNil', WHERE WHAT IT READS IS OF BULK AT MOST 1048576: true; the input reads as it did. -/
def swissNilUptoRow : OpenClaim := { program := "ytmdcgpdpkicbpaa", sum := "c7dc7a43eeaaff31c649d0b8816d1251de8297f6945bcf8f23bd37a980905c2f", func := "cubbyhole/cubbyholelaw07.SwissNil", spec := "swissNil", unfollowed := true, recurses := true, apart := false, narrowed := true }
def SwissNilUptoSaid : Prop := swissNilUptoRow.holds Try.pinned (OpenSpec.upto swissNilSpec)

/-- 'cubbyholelaw09.EntrylogNil', WHERE WHAT IT READS IS OF BULK AT MOST 1048576: true; the input reads as it did. -/
def entrylogNilUptoRow : OpenClaim := { program := "ytmdcgpdpkicbpaa", sum := "c7dc7a43eeaaff31c649d0b8816d1251de8297f6945bcf8f23bd37a980905c2f", func := "cubbyhole/cubbyholelaw09.EntrylogNil", spec := "entrylogNil", unfollowed := true, recurses := true, apart := false, narrowed := true }
def EntrylogNilUptoSaid : Prop := entrylogNilUptoRow.holds Try.pinned (OpenSpec.upto entrylogNilSpec)

/-- 'cubbyholelaw10.DictNil', WHERE WHAT IT READS IS OF BULK AT MOST 1048576: true; the input reads as it did. -/
def dictNilUptoRow : OpenClaim := { program := "ytmdcgpdpkicbpaa", sum := "c7dc7a43eeaaff31c649d0b8816d1251de8297f6945bcf8f23bd37a980905c2f", func := "cubbyhole/cubbyholelaw10.DictNil", spec := "dictNil", unfollowed := true, recurses := true, apart := false, narrowed := true }
def DictNilUptoSaid : Prop := dictNilUptoRow.holds Try.pinned (OpenSpec.upto dictNilSpec)

/-- 'cubbyholelaw12.BirthNil', WHERE WHAT IT READS IS OF BULK AT MOST 1048576: true; the input reads as it did. -/
def birthNilUptoRow : OpenClaim := { program := "ytmdcgpdpkicbpaa", sum := "c7dc7a43eeaaff31c649d0b8816d1251de8297f6945bcf8f23bd37a980905c2f", func := "cubbyhole/cubbyholelaw12.BirthNil", spec := "birthNil", unfollowed := true, recurses := true, apart := false, narrowed := true }
def BirthNilUptoSaid : Prop := birthNilUptoRow.holds Try.pinned (OpenSpec.upto birthNilSpec)

/-- 'cubbyholelaw12.BirthCounts', WHERE WHAT IT READS IS OF BULK AT MOST 1048576: true; the input reads as it did. -/
def birthCountsUptoRow : OpenClaim := { program := "ytmdcgpdpkicbpaa", sum := "c7dc7a43eeaaff31c649d0b8816d1251de8297f6945bcf8f23bd37a980905c2f", func := "cubbyhole/cubbyholelaw12.BirthCounts", spec := "birthCounts", unfollowed := true, recurses := true, apart := false, narrowed := true }
def BirthCountsUptoSaid : Prop := birthCountsUptoRow.holds Try.pinned (OpenSpec.upto birthCountsSpec)

/-- 'cubbyholelaw30.LfuNone', WHERE WHAT IT READS IS OF BULK AT MOST 1048576: true; the input reads as it did. -/
def lfuNoneUptoRow : OpenClaim := { program := "ytmdcgpdpkicbpaa", sum := "c7dc7a43eeaaff31c649d0b8816d1251de8297f6945bcf8f23bd37a980905c2f", func := "cubbyhole/cubbyholelaw30.LfuNone", spec := "lfuNone", inPlace := ["maps.clone"], unfollowed := true, recurses := true, apart := false, narrowed := true }
def LfuNoneUptoSaid : Prop := lfuNoneUptoRow.holds Try.pinned (OpenSpec.upto lfuNoneSpec)

/-- 'cubbyholelaw30.LfuCounts', WHERE WHAT IT READS IS OF BULK AT MOST 1048576: true; the input reads as it did. -/
def lfuCountsUptoRow : OpenClaim := { program := "ytmdcgpdpkicbpaa", sum := "c7dc7a43eeaaff31c649d0b8816d1251de8297f6945bcf8f23bd37a980905c2f", func := "cubbyhole/cubbyholelaw30.LfuCounts", spec := "lfuCounts", unfollowed := true, recurses := true, apart := false, narrowed := true }
def LfuCountsUptoSaid : Prop := lfuCountsUptoRow.holds Try.pinned (OpenSpec.upto lfuCountsSpec)

end Rows
end Go.Proofs.Ytmdcgpdpkicbpaa
