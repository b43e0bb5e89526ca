/-
  No cell of these rows narrows 'for every input' (looked for: loops, veiled, ifaces, maps, wideKeys, modest, calm, conditions, laid).
  DERIVED. THE GIVEN ROWS OF THIS SEAT. 4 by the template 'for every input the law returns true; each argument reads behind the call as it read before'; 0 by the template 'total and deterministic' (their statements: YtconecjgkbcahaaTotals.lean).
  GIVEN WITH THE SEED: the statements are not yours to turn. If you find one false, say at which input.
  Laid BY PROGRAM, IN A SANDBOX (cutbox-rows.mjs): the forced cells as the released guide's own fill.sh prints them over the translation 79b8efe027efa835… (all of the seat's roots in one cut). By AI agents, Wed Nov 11 2026. No macro, syntax, notation, axiom, sorry.
-/
import Derived.Test.YtconecjgkbcahaaChecked
import GoSem.Claim
import GoSem.ClaimJoined
import GoSem.ClaimMapViews
import Derived.JoinedTies
import Derived.KernelRfl
namespace Go.Proofs.Ytconecjgkbcahaa
/- THE CELL 'sum', in the pinned program and in every row, IS THE sha256 OF THE DUMP (.gsa) THAT YtconecjgkbcahaaProg.lean LOADS. Nothing in Lean hashes anything: it is a label: what it is worth is what the hold of that sum in a sandbox is worth. -/
noncomputable def Try.pinned : Pinned := { name := "ytconecjgkbcahaa", sum := "79b8efe027efa83526b16b894aff702b9b3d4d4895fda8407fbd40ad7301b6ca", checked := Try.checked }
namespace Rows
def none {H : Type} : Left H := { results := [], args := [] }

/-- 'cubbyholelaw13.SlabClasses': WHATEVER THE INPUT: true; the input reads as it did. -/
def slabClassesSpec : ChangeSpec := { name := "slabClasses", fn := fun _ => fun
  | [d1, d2] => { results := [.lit (.bool true)], args := [d1, d2] }
  | _ => none }
def slabClassesRow : OpenClaim := { program := "ytconecjgkbcahaa", sum := "79b8efe027efa83526b16b894aff702b9b3d4d4895fda8407fbd40ad7301b6ca", func := "cubbyhole/cubbyholelaw13.SlabClasses", spec := "slabClasses", apart := false }
def SlabClassesSaid : Prop := slabClassesRow.holds Try.pinned (OpenSpec.ofChange slabClassesSpec)

/-- ITS FALSE NEIGHBOUR: 'it returns false'. Refute it at one input. -/
def slabClassesWrong : ChangeSpec := { name := "slabClasses", fn := fun _ => fun
  | [d1, d2] => { results := [.lit (.bool false)], args := [d1, d2] }
  | _ => none }
def SlabClassesWrongFalsely : Prop := slabClassesRow.holds Try.pinned (OpenSpec.ofChange slabClassesWrong)

/-- 'cubbyholelaw13.SlabNil': WHATEVER THE INPUT: true; the input reads as it did. -/
def slabNilSpec : ChangeSpec := { name := "slabNil", fn := fun _ => fun
  | [d1, d2, d3] => { results := [.lit (.bool true)], args := [d1, d2, d3] }
  | _ => none }
def slabNilRow : OpenClaim := { program := "ytconecjgkbcahaa", sum := "79b8efe027efa83526b16b894aff702b9b3d4d4895fda8407fbd40ad7301b6ca", func := "cubbyhole/cubbyholelaw13.SlabNil", spec := "slabNil", apart := false }
def SlabNilSaid : Prop := slabNilRow.holds Try.pinned (OpenSpec.ofChange slabNilSpec)

/-- ITS FALSE NEIGHBOUR: 'it returns false'. Refute it at one input. -/
def slabNilWrong : ChangeSpec := { name := "slabNil", fn := fun _ => fun
  | [d1, d2, d3] => { results := [.lit (.bool false)], args := [d1, d2, d3] }
  | _ => none }
def SlabNilWrongFalsely : Prop := slabNilRow.holds Try.pinned (OpenSpec.ofChange slabNilWrong)

/-- 'cubbyholelaw14.LinksNew': WHATEVER THE INPUT: true; the input reads as it did. -/
def linksNewSpec : ChangeSpec := { name := "linksNew", fn := fun _ => fun
  | [d1, d2] => { results := [.lit (.bool true)], args := [d1, d2] }
  | _ => none }
def linksNewRow : OpenClaim := { program := "ytconecjgkbcahaa", sum := "79b8efe027efa83526b16b894aff702b9b3d4d4895fda8407fbd40ad7301b6ca", func := "cubbyhole/cubbyholelaw14.LinksNew", spec := "linksNew", unfollowed := true, recurses := true, apart := false }
def LinksNewSaid : Prop := linksNewRow.holds Try.pinned (OpenSpec.ofChange linksNewSpec)

/-- ITS FALSE NEIGHBOUR: 'it returns false'. Refute it at one input. -/
def linksNewWrong : ChangeSpec := { name := "linksNew", fn := fun _ => fun
  | [d1, d2] => { results := [.lit (.bool false)], args := [d1, d2] }
  | _ => none }
def LinksNewWrongFalsely : Prop := linksNewRow.holds Try.pinned (OpenSpec.ofChange linksNewWrong)

/-- 'cubbyholelaw15.LruLast': WHATEVER THE INPUT: true; the input reads as it did. -/
def lruLastSpec : ChangeSpec := { name := "lruLast", fn := fun _ => fun
  | [d] => { results := [.lit (.bool true)], args := [d] }
  | _ => none }
def lruLastRow : OpenClaim := { program := "ytconecjgkbcahaa", sum := "79b8efe027efa83526b16b894aff702b9b3d4d4895fda8407fbd40ad7301b6ca", func := "cubbyhole/cubbyholelaw15.LruLast", spec := "lruLast", unfollowed := true, recurses := true, apart := false }
def LruLastSaid : Prop := lruLastRow.holds Try.pinned (OpenSpec.ofChange lruLastSpec)

/-- ITS FALSE NEIGHBOUR: 'it returns false'. Refute it at one input. -/
def lruLastWrong : ChangeSpec := { name := "lruLast", fn := fun _ => fun
  | [d] => { results := [.lit (.bool false)], args := [d] }
  | _ => none }
def LruLastWrongFalsely : Prop := lruLastRow.holds Try.pinned (OpenSpec.ofChange lruLastWrong)

/- THE SECOND FORM. 'bulk': how many values and letters a reading holds, each counted each time it is reached (what is shared counts as often as it is met; a slice's spare places count too). A statement '..UptoSaid' is the law's where the arguments, and the package variables that the reading takes, are together of bulk at most 1048576: NARROWER than '..Said'. Prove '..Said' where nothing that the law and all that it calls make is longer than what came in: it says more and counts as full. Else prove '..UptoSaid'. A law counts once. -/
mutual
def uptoBulk {H : Type} : DataW H → Nat
  | .lit (.string bytes) => bytes.length + 1
  | .lit _ => 1
  | .nil => 1
  | .ptr d => uptoBulk d + 1
  | .slice elems spare => uptoBulkAll elems + uptoBulkAll spare + 1
  | .agg parts => uptoBulkAll parts + 1
  | .iface _ d => uptoBulk d + 1
  | .map entries => uptoBulkEntries entries + 1
  | .held _ => 1
def uptoBulkAll {H : Type} : List (DataW H) → Nat
  | [] => 0
  | d :: r => uptoBulk d + uptoBulkAll r
def uptoBulkEntries {H : Type} : List (Lit × DataW H) → Nat
  | [] => 0
  | x :: r => uptoBulkEntry x + uptoBulkEntries r
def uptoBulkEntry {H : Type} : Lit × DataW H → Nat
  | (.string bytes, d) => bytes.length + uptoBulk d + 1
  | (_, d) => uptoBulk d + 1
 end
def uptoSmall : (H : Type) → List (DataW H) → Bool := fun _ ds => decide (uptoBulkAll ds ≤ 1048576)
def OpenSpec.upto (s : _root_.Go.ChangeSpec) : _root_.Go.OpenSpec := { _root_.Go.OpenSpec.ofChange s with cond := some uptoSmall }

/-- 'cubbyholelaw13.SlabClasses', WHERE WHAT IT READS IS OF BULK AT MOST 1048576: true; the input reads as it did. -/
def slabClassesUptoRow : OpenClaim := { program := "ytconecjgkbcahaa", sum := "79b8efe027efa83526b16b894aff702b9b3d4d4895fda8407fbd40ad7301b6ca", func := "cubbyhole/cubbyholelaw13.SlabClasses", spec := "slabClasses", apart := false, narrowed := true }
def SlabClassesUptoSaid : Prop := slabClassesUptoRow.holds Try.pinned (OpenSpec.upto slabClassesSpec)

/-- 'cubbyholelaw13.SlabNil', WHERE WHAT IT READS IS OF BULK AT MOST 1048576: true; the input reads as it did. -/
def slabNilUptoRow : OpenClaim := { program := "ytconecjgkbcahaa", sum := "79b8efe027efa83526b16b894aff702b9b3d4d4895fda8407fbd40ad7301b6ca", func := "cubbyhole/cubbyholelaw13.SlabNil", spec := "slabNil", apart := false, narrowed := true }
def SlabNilUptoSaid : Prop := slabNilUptoRow.holds Try.pinned (OpenSpec.upto slabNilSpec)

/-- 'cubbyholelaw14.LinksNew', WHERE WHAT IT READS IS OF BULK AT MOST 1048576: true; the input reads as it did. -/
def linksNewUptoRow : OpenClaim := { program := "ytconecjgkbcahaa", sum := "79b8efe027efa83526b16b894aff702b9b3d4d4895fda8407fbd40ad7301b6ca", func := "cubbyhole/cubbyholelaw14.LinksNew", spec := "linksNew", unfollowed := true, recurses := true, apart := false, narrowed := true }
def LinksNewUptoSaid : Prop := linksNewUptoRow.holds Try.pinned (OpenSpec.upto linksNewSpec)

/-- 'cubbyholelaw15.LruLast', WHERE WHAT IT READS IS OF BULK AT MOST 1048576: true; the input reads as it did. -/
def lruLastUptoRow : OpenClaim := { program := "ytconecjgkbcahaa", sum := "79b8efe027efa83526b16b894aff702b9b3d4d4895fda8407fbd40ad7301b6ca", func := "cubbyhole/cubbyholelaw15.LruLast", spec := "lruLast", unfollowed := true, recurses := true, apart := false, narrowed := true }
def LruLastUptoSaid : Prop := lruLastUptoRow.holds Try.pinned (OpenSpec.upto lruLastSpec)

end Rows
end Go.Proofs.Ytconecjgkbcahaa
