/-
  No cell of these rows narrows 'for every input' (looked for: loops, veiled, ifaces, maps, wideKeys, modest, calm, conditions, laid).
  DERIVED. THE GIVEN ROWS OF THIS SEAT. 10 by the template 'for every input the law returns true; each argument reads behind the call as it read before'; 0 by the template 'total and deterministic' (their statements: YtbbcmheedhdlfaaTotals.lean).
  GIVEN WITH THE SEED: the statements are not yours to turn. If you find one false, say at which input.
  Laid BY PROGRAM, IN A SANDBOX (cutbox-rows.mjs): the forced cells as the released guide's own fill.sh prints them over the translation b27e188cf7db2771… (all of the seat's roots in one cut). By AI agents, Wed Nov 11 2026. No macro, syntax, notation, axiom, sorry.
-/
import Derived.Test.YtbbcmheedhdlfaaChecked
import GoSem.Claim
import GoSem.ClaimJoined
import GoSem.ClaimMapViews
import Derived.JoinedTies
import Derived.KernelRfl
namespace Go.Proofs.Ytbbcmheedhdlfaa
/- THE CELL 'sum', in the pinned program and in every row, IS THE sha256 OF THE DUMP (.gsa) THAT YtbbcmheedhdlfaaProg.lean LOADS. Nothing in Lean hashes anything: it is a label: what it is worth is what the hold of that sum in a sandbox is worth. -/
noncomputable def Try.pinned : Pinned := { name := "ytbbcmheedhdlfaa", sum := "b27e188cf7db2771b9ad1831e94bab406a5de130222fbf2c5e0baaebb759a64a", checked := Try.checked }
namespace Rows
def none {H : Type} : Left H := { results := [], args := [] }

/-- 'cubbyholelaw14.LinksNew': WHATEVER THE INPUT: true; the input reads as it did. -/
def linksNewSpec : ChangeSpec := { name := "linksNew", fn := fun _ => fun
  | [d1, d2] => { results := [.lit (.bool true)], args := [d1, d2] }
  | _ => none }
def linksNewRow : OpenClaim := { program := "ytbbcmheedhdlfaa", sum := "b27e188cf7db2771b9ad1831e94bab406a5de130222fbf2c5e0baaebb759a64a", func := "cubbyhole/cubbyholelaw14.LinksNew", spec := "linksNew", unfollowed := true, recurses := true, apart := false }
def LinksNewSaid : Prop := linksNewRow.holds Try.pinned (OpenSpec.ofChange linksNewSpec)

/-- ITS FALSE NEIGHBOUR: 'it returns false'. Refute it at one input. -/
def linksNewWrong : ChangeSpec := { name := "linksNew", fn := fun _ => fun
  | [d1, d2] => { results := [.lit (.bool false)], args := [d1, d2] }
  | _ => none }
def LinksNewWrongFalsely : Prop := linksNewRow.holds Try.pinned (OpenSpec.ofChange linksNewWrong)

/-- 'cubbyholelaw14.LinksPlays': WHATEVER THE INPUT: true; the input reads as it did. -/
def linksPlaysSpec : ChangeSpec := { name := "linksPlays", fn := fun _ => fun
  | [d1, d2, d3] => { results := [.lit (.bool true)], args := [d1, d2, d3] }
  | _ => none }
def linksPlaysRow : OpenClaim := { program := "ytbbcmheedhdlfaa", sum := "b27e188cf7db2771b9ad1831e94bab406a5de130222fbf2c5e0baaebb759a64a", func := "cubbyhole/cubbyholelaw14.LinksPlays", spec := "linksPlays", unfollowed := true, recurses := true, apart := false }
def LinksPlaysSaid : Prop := linksPlaysRow.holds Try.pinned (OpenSpec.ofChange linksPlaysSpec)

/-- ITS FALSE NEIGHBOUR: 'it returns false'. Refute it at one input. -/
def linksPlaysWrong : ChangeSpec := { name := "linksPlays", fn := fun _ => fun
  | [d1, d2, d3] => { results := [.lit (.bool false)], args := [d1, d2, d3] }
  | _ => none }
def LinksPlaysWrongFalsely : Prop := linksPlaysRow.holds Try.pinned (OpenSpec.ofChange linksPlaysWrong)

/-- 'cubbyholelaw14.LinksIterates': WHATEVER THE INPUT: true; the input reads as it did. -/
def linksIteratesSpec : ChangeSpec := { name := "linksIterates", fn := fun _ => fun
  | [d1, d2, d3] => { results := [.lit (.bool true)], args := [d1, d2, d3] }
  | _ => none }
def linksIteratesRow : OpenClaim := { program := "ytbbcmheedhdlfaa", sum := "b27e188cf7db2771b9ad1831e94bab406a5de130222fbf2c5e0baaebb759a64a", func := "cubbyhole/cubbyholelaw14.LinksIterates", spec := "linksIterates", unfollowed := true, recurses := true, apart := false }
def LinksIteratesSaid : Prop := linksIteratesRow.holds Try.pinned (OpenSpec.ofChange linksIteratesSpec)

/-- ITS FALSE NEIGHBOUR: 'it returns false'. Refute it at one input. -/
def linksIteratesWrong : ChangeSpec := { name := "linksIterates", fn := fun _ => fun
  | [d1, d2, d3] => { results := [.lit (.bool false)], args := [d1, d2, d3] }
  | _ => none }
def LinksIteratesWrongFalsely : Prop := linksIteratesRow.holds Try.pinned (OpenSpec.ofChange linksIteratesWrong)

/-- 'cubbyholelaw15.LruPlays': WHATEVER THE INPUT: true; the input reads as it did. -/
def lruPlaysSpec : ChangeSpec := { name := "lruPlays", fn := fun _ => fun
  | [d] => { results := [.lit (.bool true)], args := [d] }
  | _ => none }
def lruPlaysRow : OpenClaim := { program := "ytbbcmheedhdlfaa", sum := "b27e188cf7db2771b9ad1831e94bab406a5de130222fbf2c5e0baaebb759a64a", func := "cubbyhole/cubbyholelaw15.LruPlays", spec := "lruPlays", unfollowed := true, recurses := true, apart := false }
def LruPlaysSaid : Prop := lruPlaysRow.holds Try.pinned (OpenSpec.ofChange lruPlaysSpec)

/-- ITS FALSE NEIGHBOUR: 'it returns false'. Refute it at one input. -/
def lruPlaysWrong : ChangeSpec := { name := "lruPlays", fn := fun _ => fun
  | [d] => { results := [.lit (.bool false)], args := [d] }
  | _ => none }
def LruPlaysWrongFalsely : Prop := lruPlaysRow.holds Try.pinned (OpenSpec.ofChange lruPlaysWrong)

/-- 'cubbyholelaw15.LruIterates': WHATEVER THE INPUT: true; the input reads as it did. -/
def lruIteratesSpec : ChangeSpec := { name := "lruIterates", fn := fun _ => fun
  | [d1, d2] => { results := [.lit (.bool true)], args := [d1, d2] }
  | _ => none }
def lruIteratesRow : OpenClaim := { program := "ytbbcmheedhdlfaa", sum := "b27e188cf7db2771b9ad1831e94bab406a5de130222fbf2c5e0baaebb759a64a", func := "cubbyhole/cubbyholelaw15.LruIterates", spec := "lruIterates", unfollowed := true, recurses := true, apart := false }
def LruIteratesSaid : Prop := lruIteratesRow.holds Try.pinned (OpenSpec.ofChange lruIteratesSpec)

/-- ITS FALSE NEIGHBOUR: 'it returns false'. Refute it at one input. -/
def lruIteratesWrong : ChangeSpec := { name := "lruIterates", fn := fun _ => fun
  | [d1, d2] => { results := [.lit (.bool false)], args := [d1, d2] }
  | _ => none }
def LruIteratesWrongFalsely : Prop := lruIteratesRow.holds Try.pinned (OpenSpec.ofChange lruIteratesWrong)

/-- 'cubbyholelaw37.ReuseDistances': WHATEVER THE INPUT: true; the input reads as it did. -/
def reuseDistancesSpec : ChangeSpec := { name := "reuseDistances", fn := fun _ => fun
  | [d] => { results := [.lit (.bool true)], args := [d] }
  | _ => none }
def reuseDistancesRow : OpenClaim := { program := "ytbbcmheedhdlfaa", sum := "b27e188cf7db2771b9ad1831e94bab406a5de130222fbf2c5e0baaebb759a64a", func := "cubbyhole/cubbyholelaw37.ReuseDistances", spec := "reuseDistances", unfollowed := true, recurses := true, apart := false }
def ReuseDistancesSaid : Prop := reuseDistancesRow.holds Try.pinned (OpenSpec.ofChange reuseDistancesSpec)

/-- ITS FALSE NEIGHBOUR: 'it returns false'. Refute it at one input. -/
def reuseDistancesWrong : ChangeSpec := { name := "reuseDistances", fn := fun _ => fun
  | [d] => { results := [.lit (.bool false)], args := [d] }
  | _ => none }
def ReuseDistancesWrongFalsely : Prop := reuseDistancesRow.holds Try.pinned (OpenSpec.ofChange reuseDistancesWrong)

/-- 'cubbyholelaw37.ReuseHits': WHATEVER THE INPUT: true; the input reads as it did. -/
def reuseHitsSpec : ChangeSpec := { name := "reuseHits", fn := fun _ => fun
  | [d1, d2] => { results := [.lit (.bool true)], args := [d1, d2] }
  | _ => none }
def reuseHitsRow : OpenClaim := { program := "ytbbcmheedhdlfaa", sum := "b27e188cf7db2771b9ad1831e94bab406a5de130222fbf2c5e0baaebb759a64a", func := "cubbyhole/cubbyholelaw37.ReuseHits", spec := "reuseHits", unfollowed := true, recurses := true, apart := false }
def ReuseHitsSaid : Prop := reuseHitsRow.holds Try.pinned (OpenSpec.ofChange reuseHitsSpec)

/-- ITS FALSE NEIGHBOUR: 'it returns false'. Refute it at one input. -/
def reuseHitsWrong : ChangeSpec := { name := "reuseHits", fn := fun _ => fun
  | [d1, d2] => { results := [.lit (.bool false)], args := [d1, d2] }
  | _ => none }
def ReuseHitsWrongFalsely : Prop := reuseHitsRow.holds Try.pinned (OpenSpec.ofChange reuseHitsWrong)

/-- 'cubbyholelaw37.ReuseLists': WHATEVER THE INPUT: true; the input reads as it did. -/
def reuseListsSpec : ChangeSpec := { name := "reuseLists", fn := fun _ => fun
  | [d1, d2] => { results := [.lit (.bool true)], args := [d1, d2] }
  | _ => none }
def reuseListsRow : OpenClaim := { program := "ytbbcmheedhdlfaa", sum := "b27e188cf7db2771b9ad1831e94bab406a5de130222fbf2c5e0baaebb759a64a", func := "cubbyhole/cubbyholelaw37.ReuseLists", spec := "reuseLists", unfollowed := true, recurses := true, apart := false }
def ReuseListsSaid : Prop := reuseListsRow.holds Try.pinned (OpenSpec.ofChange reuseListsSpec)

/-- ITS FALSE NEIGHBOUR: 'it returns false'. Refute it at one input. -/
def reuseListsWrong : ChangeSpec := { name := "reuseLists", fn := fun _ => fun
  | [d1, d2] => { results := [.lit (.bool false)], args := [d1, d2] }
  | _ => none }
def ReuseListsWrongFalsely : Prop := reuseListsRow.holds Try.pinned (OpenSpec.ofChange reuseListsWrong)

/-- 'cubbyholelaw37.ReuseLongs': WHATEVER THE INPUT: true; the input reads as it did. -/
def reuseLongsSpec : ChangeSpec := { name := "reuseLongs", fn := fun _ => fun
  | [d1, d2] => { results := [.lit (.bool true)], args := [d1, d2] }
  | _ => none }
def reuseLongsRow : OpenClaim := { program := "ytbbcmheedhdlfaa", sum := "b27e188cf7db2771b9ad1831e94bab406a5de130222fbf2c5e0baaebb759a64a", func := "cubbyhole/cubbyholelaw37.ReuseLongs", spec := "reuseLongs", unfollowed := true, recurses := true, apart := false }
def ReuseLongsSaid : Prop := reuseLongsRow.holds Try.pinned (OpenSpec.ofChange reuseLongsSpec)

/-- ITS FALSE NEIGHBOUR: 'it returns false'. Refute it at one input. -/
def reuseLongsWrong : ChangeSpec := { name := "reuseLongs", fn := fun _ => fun
  | [d1, d2] => { results := [.lit (.bool false)], args := [d1, d2] }
  | _ => none }
def ReuseLongsWrongFalsely : Prop := reuseLongsRow.holds Try.pinned (OpenSpec.ofChange reuseLongsWrong)

/-- 'cubbyholelaw37.ReuseHolds': WHATEVER THE INPUT: true; the input reads as it did. -/
def reuseHoldsSpec : ChangeSpec := { name := "reuseHolds", fn := fun _ => fun
  | [d1, d2] => { results := [.lit (.bool true)], args := [d1, d2] }
  | _ => none }
def reuseHoldsRow : OpenClaim := { program := "ytbbcmheedhdlfaa", sum := "b27e188cf7db2771b9ad1831e94bab406a5de130222fbf2c5e0baaebb759a64a", func := "cubbyhole/cubbyholelaw37.ReuseHolds", spec := "reuseHolds", unfollowed := true, recurses := true, apart := false }
def ReuseHoldsSaid : Prop := reuseHoldsRow.holds Try.pinned (OpenSpec.ofChange reuseHoldsSpec)

/-- ITS FALSE NEIGHBOUR: 'it returns false'. Refute it at one input. -/
def reuseHoldsWrong : ChangeSpec := { name := "reuseHolds", fn := fun _ => fun
  | [d1, d2] => { results := [.lit (.bool false)], args := [d1, d2] }
  | _ => none }
def ReuseHoldsWrongFalsely : Prop := reuseHoldsRow.holds Try.pinned (OpenSpec.ofChange reuseHoldsWrong)

/- THE SECOND FORM. 'bulk': how many values and letters a reading holds, each counted each time it is reached (what is shared counts as often as it is met; a slice's spare places count too). A statement '..UptoSaid' is the law's where the arguments, and the package variables that the reading takes, are together of bulk at most 1048576: NARROWER than '..Said'. Prove '..Said' where nothing that the law and all that it calls make is longer than what came in: it says more and counts as full. Else prove '..UptoSaid'. A law counts once. -/
mutual
def uptoBulk {H : Type} : DataW H → Nat
  | .lit (.string bytes) => bytes.length + 1
  | .lit _ => 1
  | .nil => 1
  | .ptr d => uptoBulk d + 1
  | .slice elems spare => uptoBulkAll elems + uptoBulkAll spare + 1
  | .agg parts => uptoBulkAll parts + 1
  | .iface _ d => uptoBulk d + 1
  | .map entries => uptoBulkEntries entries + 1
  | .held _ => 1
def uptoBulkAll {H : Type} : List (DataW H) → Nat
  | [] => 0
  | d :: r => uptoBulk d + uptoBulkAll r
def uptoBulkEntries {H : Type} : List (Lit × DataW H) → Nat
  | [] => 0
  | x :: r => uptoBulkEntry x + uptoBulkEntries r
def uptoBulkEntry {H : Type} : Lit × DataW H → Nat
  | (.string bytes, d) => bytes.length + uptoBulk d + 1
  | (_, d) => uptoBulk d + 1
 end
def uptoSmall : (H : Type) → List (DataW H) → Bool := fun _ ds => decide (uptoBulkAll ds ≤ 1048576)
def OpenSpec.upto (s : _root_.Go.ChangeSpec) : _root_.Go.OpenSpec := { _root_.Go.OpenSpec.ofChange s with cond := some uptoSmall }

/-- 'cubbyholelaw14.LinksNew', WHERE WHAT IT READS IS OF BULK AT MOST 1048576: true; the input reads as it did. -/
def linksNewUptoRow : OpenClaim := { program := "ytbbcmheedhdlfaa", sum := "b27e188cf7db2771b9ad1831e94bab406a5de130222fbf2c5e0baaebb759a64a", func := "cubbyhole/cubbyholelaw14.LinksNew", spec := "linksNew", unfollowed := true, recurses := true, apart := false, narrowed := true }
def LinksNewUptoSaid : Prop := linksNewUptoRow.holds Try.pinned (OpenSpec.upto linksNewSpec)

/-- 'cubbyholelaw14.LinksPlays', WHERE WHAT IT READS IS OF BULK AT MOST 1048576: true; the input reads as it did. -/
def linksPlaysUptoRow : OpenClaim := { program := "ytbbcmheedhdlfaa", sum := "b27e188cf7db2771b9ad1831e94bab406a5de130222fbf2c5e0baaebb759a64a", func := "cubbyhole/cubbyholelaw14.LinksPlays", spec := "linksPlays", unfollowed := true, recurses := true, apart := false, narrowed := true }
def LinksPlaysUptoSaid : Prop := linksPlaysUptoRow.holds Try.pinned (OpenSpec.upto linksPlaysSpec)

/-- 'cubbyholelaw14.LinksIterates', WHERE WHAT IT READS IS OF BULK AT MOST 1048576: true; the input reads as it did. -/
def linksIteratesUptoRow : OpenClaim := { program := "ytbbcmheedhdlfaa", sum := "b27e188cf7db2771b9ad1831e94bab406a5de130222fbf2c5e0baaebb759a64a", func := "cubbyhole/cubbyholelaw14.LinksIterates", spec := "linksIterates", unfollowed := true, recurses := true, apart := false, narrowed := true }
def LinksIteratesUptoSaid : Prop := linksIteratesUptoRow.holds Try.pinned (OpenSpec.upto linksIteratesSpec)

/-- 'cubbyholelaw15.LruPlays', WHERE WHAT IT READS IS OF BULK AT MOST 1048576: true; the input reads as it did. -/
def lruPlaysUptoRow : OpenClaim := { program := "ytbbcmheedhdlfaa", sum := "b27e188cf7db2771b9ad1831e94bab406a5de130222fbf2c5e0baaebb759a64a", func := "cubbyhole/cubbyholelaw15.LruPlays", spec := "lruPlays", unfollowed := true, recurses := true, apart := false, narrowed := true }
def LruPlaysUptoSaid : Prop := lruPlaysUptoRow.holds Try.pinned (OpenSpec.upto lruPlaysSpec)

/-- 'cubbyholelaw15.LruIterates', WHERE WHAT IT READS IS OF BULK AT MOST 1048576: true; the input reads as it did. -/
def lruIteratesUptoRow : OpenClaim := { program := "ytbbcmheedhdlfaa", sum := "b27e188cf7db2771b9ad1831e94bab406a5de130222fbf2c5e0baaebb759a64a", func := "cubbyhole/cubbyholelaw15.LruIterates", spec := "lruIterates", unfollowed := true, recurses := true, apart := false, narrowed := true }
def LruIteratesUptoSaid : Prop := lruIteratesUptoRow.holds Try.pinned (OpenSpec.upto lruIteratesSpec)

/-- 'cubbyholelaw37.ReuseDistances', WHERE WHAT IT READS IS OF BULK AT MOST 1048576: true; the input reads as it did. -/
def reuseDistancesUptoRow : OpenClaim := { program := "ytbbcmheedhdlfaa", sum := "b27e188cf7db2771b9ad1831e94bab406a5de130222fbf2c5e0baaebb759a64a", func := "cubbyhole/cubbyholelaw37.ReuseDistances", spec := "reuseDistances", unfollowed := true, recurses := true, apart := false, narrowed := true }
def ReuseDistancesUptoSaid : Prop := reuseDistancesUptoRow.holds Try.pinned (OpenSpec.upto reuseDistancesSpec)

/-- 'cubbyholelaw37.ReuseHits', WHERE WHAT IT READS IS OF BULK AT MOST 1048576: true; the input reads as it did. -/
def reuseHitsUptoRow : OpenClaim := { program := "ytbbcmheedhdlfaa", sum := "b27e188cf7db2771b9ad1831e94bab406a5de130222fbf2c5e0baaebb759a64a", func := "cubbyhole/cubbyholelaw37.ReuseHits", spec := "reuseHits", unfollowed := true, recurses := true, apart := false, narrowed := true }
def ReuseHitsUptoSaid : Prop := reuseHitsUptoRow.holds Try.pinned (OpenSpec.upto reuseHitsSpec)

/-- 'cubbyholelaw37.ReuseLists', WHERE WHAT IT READS IS OF BULK AT MOST 1048576: true; the input reads as it did. -/
def reuseListsUptoRow : OpenClaim := { program := "ytbbcmheedhdlfaa", sum := "b27e188cf7db2771b9ad1831e94bab406a5de130222fbf2c5e0baaebb759a64a", func := "cubbyhole/cubbyholelaw37.ReuseLists", spec := "reuseLists", unfollowed := true, recurses := true, apart := false, narrowed := true }
def ReuseListsUptoSaid : Prop := reuseListsUptoRow.holds Try.pinned (OpenSpec.upto reuseListsSpec)

/-- 'cubbyholelaw37.ReuseLongs', WHERE WHAT IT READS IS OF BULK AT MOST 1048576: true; the input reads as it did. -/
def reuseLongsUptoRow : OpenClaim := { program := "ytbbcmheedhdlfaa", sum := "b27e188cf7db2771b9ad1831e94bab406a5de130222fbf2c5e0baaebb759a64a", func := "cubbyhole/cubbyholelaw37.ReuseLongs", spec := "reuseLongs", unfollowed := true, recurses := true, apart := false, narrowed := true }
def ReuseLongsUptoSaid : Prop := reuseLongsUptoRow.holds Try.pinned (OpenSpec.upto reuseLongsSpec)

/-- 'cubbyholelaw37.ReuseHolds', WHERE WHAT IT READS IS OF BULK AT MOST 1048576: true; the input reads as it did. -/
def reuseHoldsUptoRow : OpenClaim := { program := "ytbbcmheedhdlfaa", sum := "b27e188cf7db2771b9ad1831e94bab406a5de130222fbf2c5e0baaebb759a64a", func := "cubbyhole/cubbyholelaw37.ReuseHolds", spec := "reuseHolds", unfollowed := true, recurses := true, apart := false, narrowed := true }
def ReuseHoldsUptoSaid : Prop := reuseHoldsUptoRow.holds Try.pinned (OpenSpec.upto reuseHoldsSpec)

end Rows
end Go.Proofs.Ytbbcmheedhdlfaa
