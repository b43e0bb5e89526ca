/-
  No cell of these rows narrows 'for every input' (looked for: loops, veiled, ifaces, maps, wideKeys, modest, calm, conditions, laid).
  DERIVED. THE GIVEN ROWS OF THIS SEAT. 2 by the template 'for every input the law returns true; each argument reads behind the call as it read before'; 0 by the template 'total and deterministic' (their statements: YthghnnliahnnnaaGreatTotals.lean).
  GIVEN WITH THE SEED: the statements are not yours to turn. If you find one false, say at which input.
  Laid BY PROGRAM, IN A SANDBOX (cutbox-rows.mjs): the forced cells as the released guide's own fill.sh prints them over the translation 7be6ad3540a51e87… (all of the seat's roots in one cut). By AI agents, Wed Nov 11 2026. No macro, syntax, notation, axiom, sorry.
-/
import Derived.Test.YthghnnliahnnnaaGreatChecked
import GoSem.Claim
import GoSem.ClaimJoined
import GoSem.ClaimMapViews
import Derived.JoinedTies
import Derived.KernelRfl
namespace Go.Proofs.YthghnnliahnnnaaGreat
/- THE CELL 'sum', in the pinned program and in every row, IS THE sha256 OF THE DUMP (.gsa) THAT YthghnnliahnnnaaGreatProg.lean LOADS. Nothing in Lean hashes anything: it is a label: what it is worth is what the hold of that sum in a sandbox is worth. -/
noncomputable def Tryz.pinned : Pinned := { name := "ythghnnliahnnnaagreat", sum := "7be6ad3540a51e87fae902f7531ad34080ecd801313da3cfd9b3e3e91318a309", checked := Tryz.checked }
namespace Rows
def none {H : Type} : Left H := { results := [], args := [] }

/-- 'cubbyholelaw35.TinyNone': WHATEVER THE INPUT: true; the input reads as it did. -/
def tinyNoneSpec : ChangeSpec := { name := "tinyNone", fn := fun _ => fun
  | [d] => { results := [.lit (.bool true)], args := [d] }
  | _ => none }
def tinyNoneRow : OpenClaim := { program := "ythghnnliahnnnaagreat", sum := "7be6ad3540a51e87fae902f7531ad34080ecd801313da3cfd9b3e3e91318a309", func := "cubbyhole/cubbyholelaw35.TinyNone", spec := "tinyNone", inPlace := ["maps.clone"], unfollowed := true, recurses := true, apart := false }
def TinyNoneSaid : Prop := tinyNoneRow.holds Tryz.pinned (OpenSpec.ofChange tinyNoneSpec)

/-- ITS FALSE NEIGHBOUR: 'it returns false'. Refute it at one input. -/
def tinyNoneWrong : ChangeSpec := { name := "tinyNone", fn := fun _ => fun
  | [d] => { results := [.lit (.bool false)], args := [d] }
  | _ => none }
def TinyNoneWrongFalsely : Prop := tinyNoneRow.holds Tryz.pinned (OpenSpec.ofChange tinyNoneWrong)

/-- 'cubbyholelaw35.TinyNew': WHATEVER THE INPUT: true; the input reads as it did. -/
def tinyNewSpec : ChangeSpec := { name := "tinyNew", fn := fun _ => fun
  | [d] => { results := [.lit (.bool true)], args := [d] }
  | _ => none }
def tinyNewRow : OpenClaim := { program := "ythghnnliahnnnaagreat", sum := "7be6ad3540a51e87fae902f7531ad34080ecd801313da3cfd9b3e3e91318a309", func := "cubbyhole/cubbyholelaw35.TinyNew", spec := "tinyNew", unfollowed := true, recurses := true, apart := false }
def TinyNewSaid : Prop := tinyNewRow.holds Tryz.pinned (OpenSpec.ofChange tinyNewSpec)

/-- ITS FALSE NEIGHBOUR: 'it returns false'. Refute it at one input. -/
def tinyNewWrong : ChangeSpec := { name := "tinyNew", fn := fun _ => fun
  | [d] => { results := [.lit (.bool false)], args := [d] }
  | _ => none }
def TinyNewWrongFalsely : Prop := tinyNewRow.holds Tryz.pinned (OpenSpec.ofChange tinyNewWrong)

/- THE SECOND FORM. 'bulk': how many values and letters a reading holds, each counted each time it is reached (what is shared counts as often as it is met; a slice's spare places count too). A statement '..UptoSaid' is the law's where the arguments, and the package variables that the reading takes, are together of bulk at most 1048576: NARROWER than '..Said'. Prove '..Said' where nothing that the law and all that it calls make is longer than what came in: it says more and counts as full. Else prove '..UptoSaid'. A law counts once. -/
mutual
def uptoBulk {H : Type} : DataW H → Nat
  | .lit (.string bytes) => bytes.length + 1
  | .lit _ => 1
  | .nil => 1
  | .ptr d => uptoBulk d + 1
  | .slice elems spare => uptoBulkAll elems + uptoBulkAll spare + 1
  | .agg parts => uptoBulkAll parts + 1
  | .iface _ d => uptoBulk d + 1
  | .map entries => uptoBulkEntries entries + 1
  | .held _ => 1
def uptoBulkAll {H : Type} : List (DataW H) → Nat
  | [] => 0
  | d :: r => uptoBulk d + uptoBulkAll r
def uptoBulkEntries {H : Type} : List (Lit × DataW H) → Nat
  | [] => 0
  | x :: r => uptoBulkEntry x + uptoBulkEntries r
def uptoBulkEntry {H : Type} : Lit × DataW H → Nat
  | (.string bytes, d) => bytes.length + uptoBulk d + 1
  | (_, d) => uptoBulk d + 1
 end
def uptoSmall : (H : Type) → List (DataW H) → Bool := fun _ ds => decide (uptoBulkAll ds ≤ 1048576)
def OpenSpec.upto (s : _root_.Go.ChangeSpec) : _root_.Go.OpenSpec := { _root_.Go.OpenSpec.ofChange s with cond := some uptoSmall }

/-- 'cubbyholelaw35.TinyNone', WHERE WHAT IT READS IS OF BULK AT MOST 1048576: true; the input reads as it did. -/
def tinyNoneUptoRow : OpenClaim := { program := "ythghnnliahnnnaagreat", sum := "7be6ad3540a51e87fae902f7531ad34080ecd801313da3cfd9b3e3e91318a309", func := "cubbyhole/cubbyholelaw35.TinyNone", spec := "tinyNone", inPlace := ["maps.clone"], unfollowed := true, recurses := true, apart := false, narrowed := true }
def TinyNoneUptoSaid : Prop := tinyNoneUptoRow.holds Tryz.pinned (OpenSpec.upto tinyNoneSpec)

/-- 'cubbyholelaw35.TinyNew', WHERE WHAT IT READS IS OF BULK AT MOST 1048576: true; the input reads as it did. -/
def tinyNewUptoRow : OpenClaim := { program := "ythghnnliahnnnaagreat", sum := "7be6ad3540a51e87fae902f7531ad34080ecd801313da3cfd9b3e3e91318a309", func := "cubbyhole/cubbyholelaw35.TinyNew", spec := "tinyNew", unfollowed := true, recurses := true, apart := false, narrowed := true }
def TinyNewUptoSaid : Prop := tinyNewUptoRow.holds Tryz.pinned (OpenSpec.upto tinyNewSpec)

end Rows
end Go.Proofs.YthghnnliahnnnaaGreat
