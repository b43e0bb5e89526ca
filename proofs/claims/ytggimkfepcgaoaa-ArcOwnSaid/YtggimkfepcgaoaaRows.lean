/-
  No cell of these rows narrows 'for every input' (looked for: loops, veiled, ifaces, maps, wideKeys, modest, calm, conditions, laid).
  DERIVED. THE GIVEN ROWS OF THIS SEAT. 11 by the template 'for every input the law returns true; each argument reads behind the call as it read before'; 0 by the template 'total and deterministic' (their statements: YtggimkfepcgaoaaTotals.lean).
  GIVEN WITH THE SEED: the statements are not yours to turn. If you find one false, say at which input.
  Laid BY PROGRAM, IN A SANDBOX (cutbox-rows.mjs): the forced cells as the released guide's own fill.sh prints them over the translation db89a1017939cc0f… (all of the seat's roots in one cut). By AI agents, Wed Nov 11 2026. No macro, syntax, notation, axiom, sorry.
-/
import Derived.Test.YtggimkfepcgaoaaChecked
import GoSem.Claim
import GoSem.ClaimJoined
import GoSem.ClaimMapViews
import Derived.JoinedTies
import Derived.KernelRfl
namespace Go.Proofs.Ytggimkfepcgaoaa
/- THE CELL 'sum', in the pinned program and in every row, IS THE sha256 OF THE DUMP (.gsa) THAT YtggimkfepcgaoaaProg.lean LOADS. Nothing in Lean hashes anything: it is a label: what it is worth is what the hold of that sum in a sandbox is worth. -/
noncomputable def Try.pinned : Pinned := { name := "ytggimkfepcgaoaa", sum := "db89a1017939cc0f4bf5ebe7f3beb0b4a9e26bd7214a4332b2aaee172e3a285e", checked := Try.checked }
namespace Rows
def none {H : Type} : Left H := { results := [], args := [] }

/-- 'cubbyholelaw14.LinksNew': WHATEVER THE INPUT: true; the input reads as it did. -/
def linksNewSpec : ChangeSpec := { name := "linksNew", fn := fun _ => fun
  | [d1, d2] => { results := [.lit (.bool true)], args := [d1, d2] }
  | _ => none }
def linksNewRow : OpenClaim := { program := "ytggimkfepcgaoaa", sum := "db89a1017939cc0f4bf5ebe7f3beb0b4a9e26bd7214a4332b2aaee172e3a285e", func := "cubbyhole/cubbyholelaw14.LinksNew", spec := "linksNew", unfollowed := true, recurses := true, apart := false }
def LinksNewSaid : Prop := linksNewRow.holds Try.pinned (OpenSpec.ofChange linksNewSpec)

/-- ITS FALSE NEIGHBOUR: 'it returns false'. Refute it at one input. -/
def linksNewWrong : ChangeSpec := { name := "linksNew", fn := fun _ => fun
  | [d1, d2] => { results := [.lit (.bool false)], args := [d1, d2] }
  | _ => none }
def LinksNewWrongFalsely : Prop := linksNewRow.holds Try.pinned (OpenSpec.ofChange linksNewWrong)

/-- 'cubbyholelaw14.LinksPlays': WHATEVER THE INPUT: true; the input reads as it did. -/
def linksPlaysSpec : ChangeSpec := { name := "linksPlays", fn := fun _ => fun
  | [d1, d2, d3] => { results := [.lit (.bool true)], args := [d1, d2, d3] }
  | _ => none }
def linksPlaysRow : OpenClaim := { program := "ytggimkfepcgaoaa", sum := "db89a1017939cc0f4bf5ebe7f3beb0b4a9e26bd7214a4332b2aaee172e3a285e", func := "cubbyhole/cubbyholelaw14.LinksPlays", spec := "linksPlays", unfollowed := true, recurses := true, apart := false }
def LinksPlaysSaid : Prop := linksPlaysRow.holds Try.pinned (OpenSpec.ofChange linksPlaysSpec)

/-- ITS FALSE NEIGHBOUR: 'it returns false'. Refute it at one input. -/
def linksPlaysWrong : ChangeSpec := { name := "linksPlays", fn := fun _ => fun
  | [d1, d2, d3] => { results := [.lit (.bool false)], args := [d1, d2, d3] }
  | _ => none }
def LinksPlaysWrongFalsely : Prop := linksPlaysRow.holds Try.pinned (OpenSpec.ofChange linksPlaysWrong)

/-- 'cubbyholelaw14.LinksIterates': WHATEVER THE INPUT: true; the input reads as it did. -/
def linksIteratesSpec : ChangeSpec := { name := "linksIterates", fn := fun _ => fun
  | [d1, d2, d3] => { results := [.lit (.bool true)], args := [d1, d2, d3] }
  | _ => none }
def linksIteratesRow : OpenClaim := { program := "ytggimkfepcgaoaa", sum := "db89a1017939cc0f4bf5ebe7f3beb0b4a9e26bd7214a4332b2aaee172e3a285e", func := "cubbyhole/cubbyholelaw14.LinksIterates", spec := "linksIterates", unfollowed := true, recurses := true, apart := false }
def LinksIteratesSaid : Prop := linksIteratesRow.holds Try.pinned (OpenSpec.ofChange linksIteratesSpec)

/-- ITS FALSE NEIGHBOUR: 'it returns false'. Refute it at one input. -/
def linksIteratesWrong : ChangeSpec := { name := "linksIterates", fn := fun _ => fun
  | [d1, d2, d3] => { results := [.lit (.bool false)], args := [d1, d2, d3] }
  | _ => none }
def LinksIteratesWrongFalsely : Prop := linksIteratesRow.holds Try.pinned (OpenSpec.ofChange linksIteratesWrong)

/-- 'cubbyholelaw15.LruPlays': WHATEVER THE INPUT: true; the input reads as it did. -/
def lruPlaysSpec : ChangeSpec := { name := "lruPlays", fn := fun _ => fun
  | [d] => { results := [.lit (.bool true)], args := [d] }
  | _ => none }
def lruPlaysRow : OpenClaim := { program := "ytggimkfepcgaoaa", sum := "db89a1017939cc0f4bf5ebe7f3beb0b4a9e26bd7214a4332b2aaee172e3a285e", func := "cubbyhole/cubbyholelaw15.LruPlays", spec := "lruPlays", unfollowed := true, recurses := true, apart := false }
def LruPlaysSaid : Prop := lruPlaysRow.holds Try.pinned (OpenSpec.ofChange lruPlaysSpec)

/-- ITS FALSE NEIGHBOUR: 'it returns false'. Refute it at one input. -/
def lruPlaysWrong : ChangeSpec := { name := "lruPlays", fn := fun _ => fun
  | [d] => { results := [.lit (.bool false)], args := [d] }
  | _ => none }
def LruPlaysWrongFalsely : Prop := lruPlaysRow.holds Try.pinned (OpenSpec.ofChange lruPlaysWrong)

/-- 'cubbyholelaw15.LruIterates': WHATEVER THE INPUT: true; the input reads as it did. -/
def lruIteratesSpec : ChangeSpec := { name := "lruIterates", fn := fun _ => fun
  | [d1, d2] => { results := [.lit (.bool true)], args := [d1, d2] }
  | _ => none }
def lruIteratesRow : OpenClaim := { program := "ytggimkfepcgaoaa", sum := "db89a1017939cc0f4bf5ebe7f3beb0b4a9e26bd7214a4332b2aaee172e3a285e", func := "cubbyhole/cubbyholelaw15.LruIterates", spec := "lruIterates", unfollowed := true, recurses := true, apart := false }
def LruIteratesSaid : Prop := lruIteratesRow.holds Try.pinned (OpenSpec.ofChange lruIteratesSpec)

/-- ITS FALSE NEIGHBOUR: 'it returns false'. Refute it at one input. -/
def lruIteratesWrong : ChangeSpec := { name := "lruIterates", fn := fun _ => fun
  | [d1, d2] => { results := [.lit (.bool false)], args := [d1, d2] }
  | _ => none }
def LruIteratesWrongFalsely : Prop := lruIteratesRow.holds Try.pinned (OpenSpec.ofChange lruIteratesWrong)

/-- 'cubbyholelaw28.GhostPlays': WHATEVER THE INPUT: true; the input reads as it did. -/
def ghostPlaysSpec : ChangeSpec := { name := "ghostPlays", fn := fun _ => fun
  | [d1, d2] => { results := [.lit (.bool true)], args := [d1, d2] }
  | _ => none }
def ghostPlaysRow : OpenClaim := { program := "ytggimkfepcgaoaa", sum := "db89a1017939cc0f4bf5ebe7f3beb0b4a9e26bd7214a4332b2aaee172e3a285e", func := "cubbyhole/cubbyholelaw28.GhostPlays", spec := "ghostPlays", inPlace := ["maps.clone"], unfollowed := true, recurses := true, apart := false }
def GhostPlaysSaid : Prop := ghostPlaysRow.holds Try.pinned (OpenSpec.ofChange ghostPlaysSpec)

/-- ITS FALSE NEIGHBOUR: 'it returns false'. Refute it at one input. -/
def ghostPlaysWrong : ChangeSpec := { name := "ghostPlays", fn := fun _ => fun
  | [d1, d2] => { results := [.lit (.bool false)], args := [d1, d2] }
  | _ => none }
def GhostPlaysWrongFalsely : Prop := ghostPlaysRow.holds Try.pinned (OpenSpec.ofChange ghostPlaysWrong)

/-- 'cubbyholelaw28.GhostHolds': WHATEVER THE INPUT: true; the input reads as it did. -/
def ghostHoldsSpec : ChangeSpec := { name := "ghostHolds", fn := fun _ => fun
  | [d1, d2] => { results := [.lit (.bool true)], args := [d1, d2] }
  | _ => none }
def ghostHoldsRow : OpenClaim := { program := "ytggimkfepcgaoaa", sum := "db89a1017939cc0f4bf5ebe7f3beb0b4a9e26bd7214a4332b2aaee172e3a285e", func := "cubbyhole/cubbyholelaw28.GhostHolds", spec := "ghostHolds", unfollowed := true, recurses := true, apart := false }
def GhostHoldsSaid : Prop := ghostHoldsRow.holds Try.pinned (OpenSpec.ofChange ghostHoldsSpec)

/-- ITS FALSE NEIGHBOUR: 'it returns false'. Refute it at one input. -/
def ghostHoldsWrong : ChangeSpec := { name := "ghostHolds", fn := fun _ => fun
  | [d1, d2] => { results := [.lit (.bool false)], args := [d1, d2] }
  | _ => none }
def GhostHoldsWrongFalsely : Prop := ghostHoldsRow.holds Try.pinned (OpenSpec.ofChange ghostHoldsWrong)

/-- 'cubbyholelaw28.GhostFull': WHATEVER THE INPUT: true; the input reads as it did. -/
def ghostFullSpec : ChangeSpec := { name := "ghostFull", fn := fun _ => fun
  | [d1, d2] => { results := [.lit (.bool true)], args := [d1, d2] }
  | _ => none }
def ghostFullRow : OpenClaim := { program := "ytggimkfepcgaoaa", sum := "db89a1017939cc0f4bf5ebe7f3beb0b4a9e26bd7214a4332b2aaee172e3a285e", func := "cubbyhole/cubbyholelaw28.GhostFull", spec := "ghostFull", unfollowed := true, recurses := true, apart := false }
def GhostFullSaid : Prop := ghostFullRow.holds Try.pinned (OpenSpec.ofChange ghostFullSpec)

/-- ITS FALSE NEIGHBOUR: 'it returns false'. Refute it at one input. -/
def ghostFullWrong : ChangeSpec := { name := "ghostFull", fn := fun _ => fun
  | [d1, d2] => { results := [.lit (.bool false)], args := [d1, d2] }
  | _ => none }
def GhostFullWrongFalsely : Prop := ghostFullRow.holds Try.pinned (OpenSpec.ofChange ghostFullWrong)

/-- 'cubbyholelaw29.ArcPlays': WHATEVER THE INPUT: true; the input reads as it did. -/
def arcPlaysSpec : ChangeSpec := { name := "arcPlays", fn := fun _ => fun
  | [d1, d2] => { results := [.lit (.bool true)], args := [d1, d2] }
  | _ => none }
def arcPlaysRow : OpenClaim := { program := "ytggimkfepcgaoaa", sum := "db89a1017939cc0f4bf5ebe7f3beb0b4a9e26bd7214a4332b2aaee172e3a285e", func := "cubbyhole/cubbyholelaw29.ArcPlays", spec := "arcPlays", inPlace := ["maps.clone"], unfollowed := true, recurses := true, apart := false }
def ArcPlaysSaid : Prop := arcPlaysRow.holds Try.pinned (OpenSpec.ofChange arcPlaysSpec)

/-- ITS FALSE NEIGHBOUR: 'it returns false'. Refute it at one input. -/
def arcPlaysWrong : ChangeSpec := { name := "arcPlays", fn := fun _ => fun
  | [d1, d2] => { results := [.lit (.bool false)], args := [d1, d2] }
  | _ => none }
def ArcPlaysWrongFalsely : Prop := arcPlaysRow.holds Try.pinned (OpenSpec.ofChange arcPlaysWrong)

/-- 'cubbyholelaw29.ArcOwn': WHATEVER THE INPUT: true; the input reads as it did. -/
def arcOwnSpec : ChangeSpec := { name := "arcOwn", fn := fun _ => fun
  | [d1, d2] => { results := [.lit (.bool true)], args := [d1, d2] }
  | _ => none }
def arcOwnRow : OpenClaim := { program := "ytggimkfepcgaoaa", sum := "db89a1017939cc0f4bf5ebe7f3beb0b4a9e26bd7214a4332b2aaee172e3a285e", func := "cubbyhole/cubbyholelaw29.ArcOwn", spec := "arcOwn", inPlace := ["maps.clone"], unfollowed := true, recurses := true, apart := false }
def ArcOwnSaid : Prop := arcOwnRow.holds Try.pinned (OpenSpec.ofChange arcOwnSpec)

/-- ITS FALSE NEIGHBOUR: 'it returns false'. Refute it at one input. -/
def arcOwnWrong : ChangeSpec := { name := "arcOwn", fn := fun _ => fun
  | [d1, d2] => { results := [.lit (.bool false)], args := [d1, d2] }
  | _ => none }
def ArcOwnWrongFalsely : Prop := arcOwnRow.holds Try.pinned (OpenSpec.ofChange arcOwnWrong)

/-- 'cubbyholelaw29.ArcHolds': WHATEVER THE INPUT: true; the input reads as it did. -/
def arcHoldsSpec : ChangeSpec := { name := "arcHolds", fn := fun _ => fun
  | [d1, d2] => { results := [.lit (.bool true)], args := [d1, d2] }
  | _ => none }
def arcHoldsRow : OpenClaim := { program := "ytggimkfepcgaoaa", sum := "db89a1017939cc0f4bf5ebe7f3beb0b4a9e26bd7214a4332b2aaee172e3a285e", func := "cubbyhole/cubbyholelaw29.ArcHolds", spec := "arcHolds", unfollowed := true, recurses := true, apart := false }
def ArcHoldsSaid : Prop := arcHoldsRow.holds Try.pinned (OpenSpec.ofChange arcHoldsSpec)

/-- ITS FALSE NEIGHBOUR: 'it returns false'. Refute it at one input. -/
def arcHoldsWrong : ChangeSpec := { name := "arcHolds", fn := fun _ => fun
  | [d1, d2] => { results := [.lit (.bool false)], args := [d1, d2] }
  | _ => none }
def ArcHoldsWrongFalsely : Prop := arcHoldsRow.holds Try.pinned (OpenSpec.ofChange arcHoldsWrong)

/- THE SECOND FORM. 'bulk': how many values and letters a reading holds, each counted each time it is reached (what is shared counts as often as it is met; a slice's spare places count too). A statement '..UptoSaid' is the law's where the arguments, and the package variables that the reading takes, are together of bulk at most 1048576: NARROWER than '..Said'. Prove '..Said' where nothing that the law and all that it calls make is longer than what came in: it says more and counts as full. Else prove '..UptoSaid'. A law counts once. -/
mutual
def uptoBulk {H : Type} : DataW H → Nat
  | .lit (.string bytes) => bytes.length + 1
  | .lit _ => 1
  | .nil => 1
  | .ptr d => uptoBulk d + 1
  | .slice elems spare => uptoBulkAll elems + uptoBulkAll spare + 1
  | .agg parts => uptoBulkAll parts + 1
  | .iface _ d => uptoBulk d + 1
  | .map entries => uptoBulkEntries entries + 1
  | .held _ => 1
def uptoBulkAll {H : Type} : List (DataW H) → Nat
  | [] => 0
  | d :: r => uptoBulk d + uptoBulkAll r
def uptoBulkEntries {H : Type} : List (Lit × DataW H) → Nat
  | [] => 0
  | x :: r => uptoBulkEntry x + uptoBulkEntries r
def uptoBulkEntry {H : Type} : Lit × DataW H → Nat
  | (.string bytes, d) => bytes.length + uptoBulk d + 1
  | (_, d) => uptoBulk d + 1
 end
def uptoSmall : (H : Type) → List (DataW H) → Bool := fun _ ds => decide (uptoBulkAll ds ≤ 1048576)
def OpenSpec.upto (s : _root_.Go.ChangeSpec) : _root_.Go.OpenSpec := { _root_.Go.OpenSpec.ofChange s with cond := some uptoSmall }

/-- 'cubbyholelaw14.LinksNew', WHERE WHAT IT READS IS OF BULK AT MOST 1048576: true; the input reads as it did. -/
def linksNewUptoRow : OpenClaim := { program := "ytggimkfepcgaoaa", sum := "db89a1017939cc0f4bf5ebe7f3beb0b4a9e26bd7214a4332b2aaee172e3a285e", func := "cubbyhole/cubbyholelaw14.LinksNew", spec := "linksNew", unfollowed := true, recurses := true, apart := false, narrowed := true }
def LinksNewUptoSaid : Prop := linksNewUptoRow.holds Try.pinned (OpenSpec.upto linksNewSpec)

/-- 'cubbyholelaw14.LinksPlays', WHERE WHAT IT READS IS OF BULK AT MOST 1048576: true; the input reads as it did. -/
def linksPlaysUptoRow : OpenClaim := { program := "ytggimkfepcgaoaa", sum := "db89a1017939cc0f4bf5ebe7f3beb0b4a9e26bd7214a4332b2aaee172e3a285e", func := "cubbyhole/cubbyholelaw14.LinksPlays", spec := "linksPlays", unfollowed := true, recurses := true, apart := false, narrowed := true }
def LinksPlaysUptoSaid : Prop := linksPlaysUptoRow.holds Try.pinned (OpenSpec.upto linksPlaysSpec)

/-- 'cubbyholelaw14.LinksIterates', WHERE WHAT IT READS IS OF BULK AT MOST 1048576: true; the input reads as it did. -/
def linksIteratesUptoRow : OpenClaim := { program := "ytggimkfepcgaoaa", sum := "db89a1017939cc0f4bf5ebe7f3beb0b4a9e26bd7214a4332b2aaee172e3a285e", func := "cubbyhole/cubbyholelaw14.LinksIterates", spec := "linksIterates", unfollowed := true, recurses := true, apart := false, narrowed := true }
def LinksIteratesUptoSaid : Prop := linksIteratesUptoRow.holds Try.pinned (OpenSpec.upto linksIteratesSpec)

/-- 'cubbyholelaw15.LruPlays', WHERE WHAT IT READS IS OF BULK AT MOST 1048576: true; the input reads as it did. -/
def lruPlaysUptoRow : OpenClaim := { program := "ytggimkfepcgaoaa", sum := "db89a1017939cc0f4bf5ebe7f3beb0b4a9e26bd7214a4332b2aaee172e3a285e", func := "cubbyhole/cubbyholelaw15.LruPlays", spec := "lruPlays", unfollowed := true, recurses := true, apart := false, narrowed := true }
def LruPlaysUptoSaid : Prop := lruPlaysUptoRow.holds Try.pinned (OpenSpec.upto lruPlaysSpec)

/-- 'cubbyholelaw15.LruIterates', WHERE WHAT IT READS IS OF BULK AT MOST 1048576: true; the input reads as it did. -/
def lruIteratesUptoRow : OpenClaim := { program := "ytggimkfepcgaoaa", sum := "db89a1017939cc0f4bf5ebe7f3beb0b4a9e26bd7214a4332b2aaee172e3a285e", func := "cubbyhole/cubbyholelaw15.LruIterates", spec := "lruIterates", unfollowed := true, recurses := true, apart := false, narrowed := true }
def LruIteratesUptoSaid : Prop := lruIteratesUptoRow.holds Try.pinned (OpenSpec.upto lruIteratesSpec)

/-- 'cubbyholelaw28.GhostPlays', WHERE WHAT IT READS IS OF BULK AT MOST 1048576: true; the input reads as it did. -/
def ghostPlaysUptoRow : OpenClaim := { program := "ytggimkfepcgaoaa", sum := "db89a1017939cc0f4bf5ebe7f3beb0b4a9e26bd7214a4332b2aaee172e3a285e", func := "cubbyhole/cubbyholelaw28.GhostPlays", spec := "ghostPlays", inPlace := ["maps.clone"], unfollowed := true, recurses := true, apart := false, narrowed := true }
def GhostPlaysUptoSaid : Prop := ghostPlaysUptoRow.holds Try.pinned (OpenSpec.upto ghostPlaysSpec)

/-- 'cubbyholelaw28.GhostHolds', WHERE WHAT IT READS IS OF BULK AT MOST 1048576: true; the input reads as it did. -/
def ghostHoldsUptoRow : OpenClaim := { program := "ytggimkfepcgaoaa", sum := "db89a1017939cc0f4bf5ebe7f3beb0b4a9e26bd7214a4332b2aaee172e3a285e", func := "cubbyhole/cubbyholelaw28.GhostHolds", spec := "ghostHolds", unfollowed := true, recurses := true, apart := false, narrowed := true }
def GhostHoldsUptoSaid : Prop := ghostHoldsUptoRow.holds Try.pinned (OpenSpec.upto ghostHoldsSpec)

/-- 'cubbyholelaw28.GhostFull', WHERE WHAT IT READS IS OF BULK AT MOST 1048576: true; the input reads as it did. -/
def ghostFullUptoRow : OpenClaim := { program := "ytggimkfepcgaoaa", sum := "db89a1017939cc0f4bf5ebe7f3beb0b4a9e26bd7214a4332b2aaee172e3a285e", func := "cubbyhole/cubbyholelaw28.GhostFull", spec := "ghostFull", unfollowed := true, recurses := true, apart := false, narrowed := true }
def GhostFullUptoSaid : Prop := ghostFullUptoRow.holds Try.pinned (OpenSpec.upto ghostFullSpec)

/-- 'cubbyholelaw29.ArcPlays', WHERE WHAT IT READS IS OF BULK AT MOST 1048576: true; the input reads as it did. -/
def arcPlaysUptoRow : OpenClaim := { program := "ytggimkfepcgaoaa", sum := "db89a1017939cc0f4bf5ebe7f3beb0b4a9e26bd7214a4332b2aaee172e3a285e", func := "cubbyhole/cubbyholelaw29.ArcPlays", spec := "arcPlays", inPlace := ["maps.clone"], unfollowed := true, recurses := true, apart := false, narrowed := true }
def ArcPlaysUptoSaid : Prop := arcPlaysUptoRow.holds Try.pinned (OpenSpec.upto arcPlaysSpec)

/-- 'cubbyholelaw29.ArcOwn', WHERE WHAT IT READS IS OF BULK AT MOST 1048576: true; the input reads as it did. -/
def arcOwnUptoRow : OpenClaim := { program := "ytggimkfepcgaoaa", sum := "db89a1017939cc0f4bf5ebe7f3beb0b4a9e26bd7214a4332b2aaee172e3a285e", func := "cubbyhole/cubbyholelaw29.ArcOwn", spec := "arcOwn", inPlace := ["maps.clone"], unfollowed := true, recurses := true, apart := false, narrowed := true }
def ArcOwnUptoSaid : Prop := arcOwnUptoRow.holds Try.pinned (OpenSpec.upto arcOwnSpec)

/-- 'cubbyholelaw29.ArcHolds', WHERE WHAT IT READS IS OF BULK AT MOST 1048576: true; the input reads as it did. -/
def arcHoldsUptoRow : OpenClaim := { program := "ytggimkfepcgaoaa", sum := "db89a1017939cc0f4bf5ebe7f3beb0b4a9e26bd7214a4332b2aaee172e3a285e", func := "cubbyhole/cubbyholelaw29.ArcHolds", spec := "arcHolds", unfollowed := true, recurses := true, apart := false, narrowed := true }
def ArcHoldsUptoSaid : Prop := arcHoldsUptoRow.holds Try.pinned (OpenSpec.upto arcHoldsSpec)

end Rows
end Go.Proofs.Ytggimkfepcgaoaa
