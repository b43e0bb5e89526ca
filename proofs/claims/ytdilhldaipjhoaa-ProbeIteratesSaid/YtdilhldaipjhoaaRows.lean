/-
  No cell of these rows narrows 'for every input' (looked for: loops, veiled, ifaces, maps, wideKeys, modest, calm, conditions, laid).
  DERIVED. THE GIVEN ROWS OF THIS SEAT. 10 by the template 'for every input the law returns true; each argument reads behind the call as it read before'; 0 by the template 'total and deterministic' (their statements: YtdilhldaipjhoaaTotals.lean).
  GIVEN WITH THE SEED: the statements are not yours to turn. If you find one false, say at which input.
  Laid BY PROGRAM, IN A SANDBOX (cutbox-rows.mjs): the forced cells as the released guide's own fill.sh prints them over the translation e461a3af858a6ae3… (all of the seat's roots in one cut). By AI agents, Wed Nov 11 2026. No macro, syntax, notation, axiom, sorry.
-/
import Derived.Test.YtdilhldaipjhoaaChecked
import GoSem.Claim
import GoSem.ClaimJoined
import GoSem.ClaimMapViews
import Derived.JoinedTies
import Derived.KernelRfl
namespace Go.Proofs.Ytdilhldaipjhoaa
/- THE CELL 'sum', in the pinned program and in every row, IS THE sha256 OF THE DUMP (.gsa) THAT YtdilhldaipjhoaaProg.lean LOADS. Nothing in Lean hashes anything: it is a label: what it is worth is what the hold of that sum in a sandbox is worth. -/
noncomputable def Try.pinned : Pinned := { name := "ytdilhldaipjhoaa", sum := "e461a3af858a6ae361217cd7aaa72c4cd58f4bb7bca16a3e923500d8c38de9ef", checked := Try.checked }
namespace Rows
def none {H : Type} : Left H := { results := [], args := [] }

/-- 'cubbyholelaw06.ProbeAt': WHATEVER THE INPUT: true; the input reads as it did. -/
def probeAtSpec : ChangeSpec := { name := "probeAt", fn := fun _ => fun
  | [d1, d2, d3] => { results := [.lit (.bool true)], args := [d1, d2, d3] }
  | _ => none }
def probeAtRow : OpenClaim := { program := "ytdilhldaipjhoaa", sum := "e461a3af858a6ae361217cd7aaa72c4cd58f4bb7bca16a3e923500d8c38de9ef", func := "cubbyhole/cubbyholelaw06.ProbeAt", spec := "probeAt", unfollowed := true, recurses := true, apart := false }
def ProbeAtSaid : Prop := probeAtRow.holds Try.pinned (OpenSpec.ofChange probeAtSpec)

/-- ITS FALSE NEIGHBOUR: 'it returns false'. Refute it at one input. -/
def probeAtWrong : ChangeSpec := { name := "probeAt", fn := fun _ => fun
  | [d1, d2, d3] => { results := [.lit (.bool false)], args := [d1, d2, d3] }
  | _ => none }
def ProbeAtWrongFalsely : Prop := probeAtRow.holds Try.pinned (OpenSpec.ofChange probeAtWrong)

/-- 'cubbyholelaw06.ProbeAll': WHATEVER THE INPUT: true; the input reads as it did. -/
def probeAllSpec : ChangeSpec := { name := "probeAll", fn := fun _ => fun
  | [d1, d2] => { results := [.lit (.bool true)], args := [d1, d2] }
  | _ => none }
def probeAllRow : OpenClaim := { program := "ytdilhldaipjhoaa", sum := "e461a3af858a6ae361217cd7aaa72c4cd58f4bb7bca16a3e923500d8c38de9ef", func := "cubbyhole/cubbyholelaw06.ProbeAll", spec := "probeAll", unfollowed := true, recurses := true, apart := false }
def ProbeAllSaid : Prop := probeAllRow.holds Try.pinned (OpenSpec.ofChange probeAllSpec)

/-- ITS FALSE NEIGHBOUR: 'it returns false'. Refute it at one input. -/
def probeAllWrong : ChangeSpec := { name := "probeAll", fn := fun _ => fun
  | [d1, d2] => { results := [.lit (.bool false)], args := [d1, d2] }
  | _ => none }
def ProbeAllWrongFalsely : Prop := probeAllRow.holds Try.pinned (OpenSpec.ofChange probeAllWrong)

/-- 'cubbyholelaw06.ProbeIndex': WHATEVER THE INPUT: true; the input reads as it did. -/
def probeIndexSpec : ChangeSpec := { name := "probeIndex", fn := fun _ => fun
  | [d1, d2, d3] => { results := [.lit (.bool true)], args := [d1, d2, d3] }
  | _ => none }
def probeIndexRow : OpenClaim := { program := "ytdilhldaipjhoaa", sum := "e461a3af858a6ae361217cd7aaa72c4cd58f4bb7bca16a3e923500d8c38de9ef", func := "cubbyhole/cubbyholelaw06.ProbeIndex", spec := "probeIndex", unfollowed := true, recurses := true, apart := false }
def ProbeIndexSaid : Prop := probeIndexRow.holds Try.pinned (OpenSpec.ofChange probeIndexSpec)

/-- ITS FALSE NEIGHBOUR: 'it returns false'. Refute it at one input. -/
def probeIndexWrong : ChangeSpec := { name := "probeIndex", fn := fun _ => fun
  | [d1, d2, d3] => { results := [.lit (.bool false)], args := [d1, d2, d3] }
  | _ => none }
def ProbeIndexWrongFalsely : Prop := probeIndexRow.holds Try.pinned (OpenSpec.ofChange probeIndexWrong)

/-- 'cubbyholelaw06.ProbeIterates': WHATEVER THE INPUT: true; the input reads as it did. -/
def probeIteratesSpec : ChangeSpec := { name := "probeIterates", fn := fun _ => fun
  | [d1, d2, d3] => { results := [.lit (.bool true)], args := [d1, d2, d3] }
  | _ => none }
def probeIteratesRow : OpenClaim := { program := "ytdilhldaipjhoaa", sum := "e461a3af858a6ae361217cd7aaa72c4cd58f4bb7bca16a3e923500d8c38de9ef", func := "cubbyhole/cubbyholelaw06.ProbeIterates", spec := "probeIterates", unfollowed := true, recurses := true, apart := false }
def ProbeIteratesSaid : Prop := probeIteratesRow.holds Try.pinned (OpenSpec.ofChange probeIteratesSpec)

/-- ITS FALSE NEIGHBOUR: 'it returns false'. Refute it at one input. -/
def probeIteratesWrong : ChangeSpec := { name := "probeIterates", fn := fun _ => fun
  | [d1, d2, d3] => { results := [.lit (.bool false)], args := [d1, d2, d3] }
  | _ => none }
def ProbeIteratesWrongFalsely : Prop := probeIteratesRow.holds Try.pinned (OpenSpec.ofChange probeIteratesWrong)

/-- 'cubbyholelaw06.ProbeHolds': WHATEVER THE INPUT: true; the input reads as it did. -/
def probeHoldsSpec : ChangeSpec := { name := "probeHolds", fn := fun _ => fun
  | [d1, d2, d3, d4] => { results := [.lit (.bool true)], args := [d1, d2, d3, d4] }
  | _ => none }
def probeHoldsRow : OpenClaim := { program := "ytdilhldaipjhoaa", sum := "e461a3af858a6ae361217cd7aaa72c4cd58f4bb7bca16a3e923500d8c38de9ef", func := "cubbyhole/cubbyholelaw06.ProbeHolds", spec := "probeHolds", unfollowed := true, recurses := true, apart := false }
def ProbeHoldsSaid : Prop := probeHoldsRow.holds Try.pinned (OpenSpec.ofChange probeHoldsSpec)

/-- ITS FALSE NEIGHBOUR: 'it returns false'. Refute it at one input. -/
def probeHoldsWrong : ChangeSpec := { name := "probeHolds", fn := fun _ => fun
  | [d1, d2, d3, d4] => { results := [.lit (.bool false)], args := [d1, d2, d3, d4] }
  | _ => none }
def ProbeHoldsWrongFalsely : Prop := probeHoldsRow.holds Try.pinned (OpenSpec.ofChange probeHoldsWrong)

/-- 'cubbyholelaw08.GrowthLimits': WHATEVER THE INPUT: true; the input reads as it did. -/
def growthLimitsSpec : ChangeSpec := { name := "growthLimits", fn := fun _ => fun
  | [d1, d2] => { results := [.lit (.bool true)], args := [d1, d2] }
  | _ => none }
def growthLimitsRow : OpenClaim := { program := "ytdilhldaipjhoaa", sum := "e461a3af858a6ae361217cd7aaa72c4cd58f4bb7bca16a3e923500d8c38de9ef", func := "cubbyhole/cubbyholelaw08.GrowthLimits", spec := "growthLimits", apart := false }
def GrowthLimitsSaid : Prop := growthLimitsRow.holds Try.pinned (OpenSpec.ofChange growthLimitsSpec)

/-- ITS FALSE NEIGHBOUR: 'it returns false'. Refute it at one input. -/
def growthLimitsWrong : ChangeSpec := { name := "growthLimits", fn := fun _ => fun
  | [d1, d2] => { results := [.lit (.bool false)], args := [d1, d2] }
  | _ => none }
def GrowthLimitsWrongFalsely : Prop := growthLimitsRow.holds Try.pinned (OpenSpec.ofChange growthLimitsWrong)

/-- 'cubbyholelaw08.GrowthInserts': WHATEVER THE INPUT: true; the input reads as it did. -/
def growthInsertsSpec : ChangeSpec := { name := "growthInserts", fn := fun _ => fun
  | [d1, d2, d3] => { results := [.lit (.bool true)], args := [d1, d2, d3] }
  | _ => none }
def growthInsertsRow : OpenClaim := { program := "ytdilhldaipjhoaa", sum := "e461a3af858a6ae361217cd7aaa72c4cd58f4bb7bca16a3e923500d8c38de9ef", func := "cubbyhole/cubbyholelaw08.GrowthInserts", spec := "growthInserts", apart := false }
def GrowthInsertsSaid : Prop := growthInsertsRow.holds Try.pinned (OpenSpec.ofChange growthInsertsSpec)

/-- ITS FALSE NEIGHBOUR: 'it returns false'. Refute it at one input. -/
def growthInsertsWrong : ChangeSpec := { name := "growthInserts", fn := fun _ => fun
  | [d1, d2, d3] => { results := [.lit (.bool false)], args := [d1, d2, d3] }
  | _ => none }
def GrowthInsertsWrongFalsely : Prop := growthInsertsRow.holds Try.pinned (OpenSpec.ofChange growthInsertsWrong)

/-- 'cubbyholelaw08.GrowthRemoves': WHATEVER THE INPUT: true; the input reads as it did. -/
def growthRemovesSpec : ChangeSpec := { name := "growthRemoves", fn := fun _ => fun
  | [d1, d2, d3] => { results := [.lit (.bool true)], args := [d1, d2, d3] }
  | _ => none }
def growthRemovesRow : OpenClaim := { program := "ytdilhldaipjhoaa", sum := "e461a3af858a6ae361217cd7aaa72c4cd58f4bb7bca16a3e923500d8c38de9ef", func := "cubbyhole/cubbyholelaw08.GrowthRemoves", spec := "growthRemoves", apart := false }
def GrowthRemovesSaid : Prop := growthRemovesRow.holds Try.pinned (OpenSpec.ofChange growthRemovesSpec)

/-- ITS FALSE NEIGHBOUR: 'it returns false'. Refute it at one input. -/
def growthRemovesWrong : ChangeSpec := { name := "growthRemoves", fn := fun _ => fun
  | [d1, d2, d3] => { results := [.lit (.bool false)], args := [d1, d2, d3] }
  | _ => none }
def GrowthRemovesWrongFalsely : Prop := growthRemovesRow.holds Try.pinned (OpenSpec.ofChange growthRemovesWrong)

/-- 'cubbyholelaw08.GrowthRuns': WHATEVER THE INPUT: true; the input reads as it did. -/
def growthRunsSpec : ChangeSpec := { name := "growthRuns", fn := fun _ => fun
  | [d] => { results := [.lit (.bool true)], args := [d] }
  | _ => none }
def growthRunsRow : OpenClaim := { program := "ytdilhldaipjhoaa", sum := "e461a3af858a6ae361217cd7aaa72c4cd58f4bb7bca16a3e923500d8c38de9ef", func := "cubbyhole/cubbyholelaw08.GrowthRuns", spec := "growthRuns", apart := false }
def GrowthRunsSaid : Prop := growthRunsRow.holds Try.pinned (OpenSpec.ofChange growthRunsSpec)

/-- ITS FALSE NEIGHBOUR: 'it returns false'. Refute it at one input. -/
def growthRunsWrong : ChangeSpec := { name := "growthRuns", fn := fun _ => fun
  | [d] => { results := [.lit (.bool false)], args := [d] }
  | _ => none }
def GrowthRunsWrongFalsely : Prop := growthRunsRow.holds Try.pinned (OpenSpec.ofChange growthRunsWrong)

/-- 'cubbyholelaw08.GrowthHolds': WHATEVER THE INPUT: true; the input reads as it did. -/
def growthHoldsSpec : ChangeSpec := { name := "growthHolds", fn := fun _ => fun
  | [d1, d2, d3] => { results := [.lit (.bool true)], args := [d1, d2, d3] }
  | _ => none }
def growthHoldsRow : OpenClaim := { program := "ytdilhldaipjhoaa", sum := "e461a3af858a6ae361217cd7aaa72c4cd58f4bb7bca16a3e923500d8c38de9ef", func := "cubbyhole/cubbyholelaw08.GrowthHolds", spec := "growthHolds", apart := false }
def GrowthHoldsSaid : Prop := growthHoldsRow.holds Try.pinned (OpenSpec.ofChange growthHoldsSpec)

/-- ITS FALSE NEIGHBOUR: 'it returns false'. Refute it at one input. -/
def growthHoldsWrong : ChangeSpec := { name := "growthHolds", fn := fun _ => fun
  | [d1, d2, d3] => { results := [.lit (.bool false)], args := [d1, d2, d3] }
  | _ => none }
def GrowthHoldsWrongFalsely : Prop := growthHoldsRow.holds Try.pinned (OpenSpec.ofChange growthHoldsWrong)

/- THE SECOND FORM. 'bulk': how many values and letters a reading holds, each counted each time it is reached (what is shared counts as often as it is met; a slice's spare places count too). A statement '..UptoSaid' is the law's where the arguments, and the package variables that the reading takes, are together of bulk at most 1048576: NARROWER than '..Said'. Prove '..Said' where nothing that the law and all that it calls make is longer than what came in: it says more and counts as full. Else prove '..UptoSaid'. A law counts once. -/
mutual
def uptoBulk {H : Type} : DataW H → Nat
  | .lit (.string bytes) => bytes.length + 1
  | .lit _ => 1
  | .nil => 1
  | .ptr d => uptoBulk d + 1
  | .slice elems spare => uptoBulkAll elems + uptoBulkAll spare + 1
  | .agg parts => uptoBulkAll parts + 1
  | .iface _ d => uptoBulk d + 1
  | .map entries => uptoBulkEntries entries + 1
  | .held _ => 1
def uptoBulkAll {H : Type} : List (DataW H) → Nat
  | [] => 0
  | d :: r => uptoBulk d + uptoBulkAll r
def uptoBulkEntries {H : Type} : List (Lit × DataW H) → Nat
  | [] => 0
  | x :: r => uptoBulkEntry x + uptoBulkEntries r
def uptoBulkEntry {H : Type} : Lit × DataW H → Nat
  | (.string bytes, d) => bytes.length + uptoBulk d + 1
  | (_, d) => uptoBulk d + 1
 end
def uptoSmall : (H : Type) → List (DataW H) → Bool := fun _ ds => decide (uptoBulkAll ds ≤ 1048576)
def OpenSpec.upto (s : _root_.Go.ChangeSpec) : _root_.Go.OpenSpec := { _root_.Go.OpenSpec.ofChange s with cond := some uptoSmall }

/-- 'cubbyholelaw06.ProbeAt', WHERE WHAT IT READS IS OF BULK AT MOST 1048576: true; the input reads as it did. -/
def probeAtUptoRow : OpenClaim := { program := "ytdilhldaipjhoaa", sum := "e461a3af858a6ae361217cd7aaa72c4cd58f4bb7bca16a3e923500d8c38de9ef", func := "cubbyhole/cubbyholelaw06.ProbeAt", spec := "probeAt", unfollowed := true, recurses := true, apart := false, narrowed := true }
def ProbeAtUptoSaid : Prop := probeAtUptoRow.holds Try.pinned (OpenSpec.upto probeAtSpec)

/-- 'cubbyholelaw06.ProbeAll', WHERE WHAT IT READS IS OF BULK AT MOST 1048576: true; the input reads as it did. -/
def probeAllUptoRow : OpenClaim := { program := "ytdilhldaipjhoaa", sum := "e461a3af858a6ae361217cd7aaa72c4cd58f4bb7bca16a3e923500d8c38de9ef", func := "cubbyhole/cubbyholelaw06.ProbeAll", spec := "probeAll", unfollowed := true, recurses := true, apart := false, narrowed := true }
def ProbeAllUptoSaid : Prop := probeAllUptoRow.holds Try.pinned (OpenSpec.upto probeAllSpec)

/-- 'cubbyholelaw06.ProbeIndex', WHERE WHAT IT READS IS OF BULK AT MOST 1048576: true; the input reads as it did. -/
def probeIndexUptoRow : OpenClaim := { program := "ytdilhldaipjhoaa", sum := "e461a3af858a6ae361217cd7aaa72c4cd58f4bb7bca16a3e923500d8c38de9ef", func := "cubbyhole/cubbyholelaw06.ProbeIndex", spec := "probeIndex", unfollowed := true, recurses := true, apart := false, narrowed := true }
def ProbeIndexUptoSaid : Prop := probeIndexUptoRow.holds Try.pinned (OpenSpec.upto probeIndexSpec)

/-- 'cubbyholelaw06.ProbeIterates', WHERE WHAT IT READS IS OF BULK AT MOST 1048576: true; the input reads as it did. -/
def probeIteratesUptoRow : OpenClaim := { program := "ytdilhldaipjhoaa", sum := "e461a3af858a6ae361217cd7aaa72c4cd58f4bb7bca16a3e923500d8c38de9ef", func := "cubbyhole/cubbyholelaw06.ProbeIterates", spec := "probeIterates", unfollowed := true, recurses := true, apart := false, narrowed := true }
def ProbeIteratesUptoSaid : Prop := probeIteratesUptoRow.holds Try.pinned (OpenSpec.upto probeIteratesSpec)

/-- 'cubbyholelaw06.ProbeHolds', WHERE WHAT IT READS IS OF BULK AT MOST 1048576: true; the input reads as it did. -/
def probeHoldsUptoRow : OpenClaim := { program := "ytdilhldaipjhoaa", sum := "e461a3af858a6ae361217cd7aaa72c4cd58f4bb7bca16a3e923500d8c38de9ef", func := "cubbyhole/cubbyholelaw06.ProbeHolds", spec := "probeHolds", unfollowed := true, recurses := true, apart := false, narrowed := true }
def ProbeHoldsUptoSaid : Prop := probeHoldsUptoRow.holds Try.pinned (OpenSpec.upto probeHoldsSpec)

/-- 'cubbyholelaw08.GrowthLimits', WHERE WHAT IT READS IS OF BULK AT MOST 1048576: true; the input reads as it did. -/
def growthLimitsUptoRow : OpenClaim := { program := "ytdilhldaipjhoaa", sum := "e461a3af858a6ae361217cd7aaa72c4cd58f4bb7bca16a3e923500d8c38de9ef", func := "cubbyhole/cubbyholelaw08.GrowthLimits", spec := "growthLimits", apart := false, narrowed := true }
def GrowthLimitsUptoSaid : Prop := growthLimitsUptoRow.holds Try.pinned (OpenSpec.upto growthLimitsSpec)

/-- 'cubbyholelaw08.GrowthInserts', WHERE WHAT IT READS IS OF BULK AT MOST 1048576: true; the input reads as it did. -/
def growthInsertsUptoRow : OpenClaim := { program := "ytdilhldaipjhoaa", sum := "e461a3af858a6ae361217cd7aaa72c4cd58f4bb7bca16a3e923500d8c38de9ef", func := "cubbyhole/cubbyholelaw08.GrowthInserts", spec := "growthInserts", apart := false, narrowed := true }
def GrowthInsertsUptoSaid : Prop := growthInsertsUptoRow.holds Try.pinned (OpenSpec.upto growthInsertsSpec)

/-- 'cubbyholelaw08.GrowthRemoves', WHERE WHAT IT READS IS OF BULK AT MOST 1048576: true; the input reads as it did. -/
def growthRemovesUptoRow : OpenClaim := { program := "ytdilhldaipjhoaa", sum := "e461a3af858a6ae361217cd7aaa72c4cd58f4bb7bca16a3e923500d8c38de9ef", func := "cubbyhole/cubbyholelaw08.GrowthRemoves", spec := "growthRemoves", apart := false, narrowed := true }
def GrowthRemovesUptoSaid : Prop := growthRemovesUptoRow.holds Try.pinned (OpenSpec.upto growthRemovesSpec)

/-- 'cubbyholelaw08.GrowthRuns', WHERE WHAT IT READS IS OF BULK AT MOST 1048576: true; the input reads as it did. -/
def growthRunsUptoRow : OpenClaim := { program := "ytdilhldaipjhoaa", sum := "e461a3af858a6ae361217cd7aaa72c4cd58f4bb7bca16a3e923500d8c38de9ef", func := "cubbyhole/cubbyholelaw08.GrowthRuns", spec := "growthRuns", apart := false, narrowed := true }
def GrowthRunsUptoSaid : Prop := growthRunsUptoRow.holds Try.pinned (OpenSpec.upto growthRunsSpec)

/-- 'cubbyholelaw08.GrowthHolds', WHERE WHAT IT READS IS OF BULK AT MOST 1048576: true; the input reads as it did. -/
def growthHoldsUptoRow : OpenClaim := { program := "ytdilhldaipjhoaa", sum := "e461a3af858a6ae361217cd7aaa72c4cd58f4bb7bca16a3e923500d8c38de9ef", func := "cubbyhole/cubbyholelaw08.GrowthHolds", spec := "growthHolds", apart := false, narrowed := true }
def GrowthHoldsUptoSaid : Prop := growthHoldsUptoRow.holds Try.pinned (OpenSpec.upto growthHoldsSpec)

end Rows
end Go.Proofs.Ytdilhldaipjhoaa
