/-
  SeasonNone, for every input: the law returns true, and its arguments read as before. No condition.
-/
import Derived.Test.YtnopaohjhdhfdaaDoorRows
import Derived.Test.YtnopaohjhdhfdaaDoorJSeasonNone0
import Derived.Test.YtnopaohjhdhfdaaDoorJSeasonNone1
import Derived.Test.YtnopaohjhdhfdaaDoorJSeasonNone2
import Derived.Test.YtnopaohjhdhfdaaDoorJSeasonNone3
import Derived.Test.YtnopaohjhdhfdaaDoorJSeasonNone4
import Derived.Test.YtnopaohjhdhfdaaDoorLSeasonNone
import Derived.Test.YtnopaohjhdhfdaaDoorTie
import Derived.Test.YtnopaohjhdhfdaaDoorCards
import Derived.Test.YtnopaohjhdhfdaaDoorLow
import Derived.Test.YtnopaohjhdhfdaaDoorEvX
import Derived.Test.YtnopaohjhdhfdaaDoorK50known
import Derived.Test.YtnopaohjhdhfdaaDoorSl
import Derived.Test.YtnopaohjhdhfdaaDoorLaid
import Derived.WalkKit
import Derived.ChangeSame
import Derived.ChangeVars
import Derived.JoinedOf
import Derived.RowKitTokens
import Derived.LaidLaws
import Derived.Handed
import Derived.SevenTiedAt
import Derived.ProofKit
import Derived.OpenShut
import Derived.ShutString
import Derived.ChangeOld
import Derived.Below
import Derived.Carry
import Derived.WideShapes
namespace Go.Proofs.YtnopaohjhdhfdaaDoor.seasonNone
open Go.ChangeShapes Go.WideShapes Go.ChangeAt Go.RowKit
open Go.ChangeMaps (open_string shut_string)
set_option linter.unusedVariables false
set_option linter.unusedSimpArgs false

theorem both_i {a b : Bool} (h : a = true) (k : b = true) : (a && b) = true := by rw [h, k]; rfl
set_option maxRecDepth 100000 in
theorem joined : joinedFacts Tryd.prog 3 Tryd.f3 Rows.seasonNoneSpec Rows.seasonNoneRow = true := by
  unfold joinedFacts
  exact (both_i (both_i (both_i (both_i (both_i (both_i (both_i (both_i (both_i (both_i (both_i (both_i (both_i (both_i (both_i (both_i (both_i (both_i (both_i (both_i (both_i (both_i (both_i (both_i (both_i (both_i (both_i (both_i (both_i (both_i (both_i (by kernel_rfl) closed2) closed3) (by kernel_rfl)) (by kernel_rfl)) (by kernel_rfl)) (by kernel_rfl)) (by kernel_rfl)) (by kernel_rfl)) closed10) closed11) closed12) closed13) (by kernel_rfl)) (by kernel_rfl)) (by kernel_rfl)) (by kernel_rfl)) (by kernel_rfl)) (by kernel_rfl)) (by kernel_rfl)) (by kernel_rfl)) (by kernel_rfl)) closed23) (by kernel_rfl)) closed25) closed26) (by kernel_rfl)) (by kernel_rfl)) (by kernel_rfl)) (by kernel_rfl)) (by kernel_rfl)) (by kernel_rfl))
set_option maxHeartbeats 40000000 in
theorem over : Rows.seasonNoneRow.holds Tryd.pinned (OpenSpec.ofChange Rows.seasonNoneSpec) :=
  OpenClaim.holds_of_wide 3 Tryd.f3 rfl rfl rfl rfl rfl rfl rfl ⟨rfl, rfl, rfl, rfl, rfl⟩ rfl rfl rfl rfl rfl (by as_aux_lemma => kernel_rfl) Tryd.func3 joined
    (of_decide_eq_true (by as_aux_lemma => kernel_rfl)) (by unfold Func.isWrapper; first | (rw [if_pos (by decide +kernel)]; as_aux_lemma => kernel_rfl) | (rw [if_neg (by decide +kernel)]; exact ⟨rfl, rfl⟩))
    (fun os started H enc _ => lifted os started H enc)

theorem proved : Rows.SeasonNoneCardSaid :=
  Claim7.holds_tied_plain_at .later [] [.data, .data, .data, .data, .sentinel, .sentinel, .pinned] true (true, "9a0e553b9b82086b0c68f8a1d858c7891a77268e31ed0dbd22e40261c498e6d3") true
    over (fun _ h => by cases h) (by as_aux_lemma => kernel_rfl) (fun _ h => by cases h) seasonNone_row_tie rfl ⟨rfl, rfl⟩ (by as_aux_lemma => kernel_rfl) rfl
    (fun f fn hf hfn => by
      obtain rfl : f = 3 := Option.some.inj ((show Tryd.prog.funcNamed "cubbyhole/cubbyholelaw50.SeasonNone" = some 3 by kernel_rfl).symm.trans hf) |>.symm
      obtain rfl : fn = Tryd.f3 := (Option.some.inj (Tryd.func3.symm.trans hfn)).symm
      exact ⟨by kernel_rfl, fun j t ht => Ev.standIns (ps := Tryd.f3.params) (f := Tryd.prog.wantsStandIn) (by as_aux_lemma => kernel_rfl) ht⟩)
    (by as_aux_lemma => kernel_rfl)
#print axioms proved
end Go.Proofs.YtnopaohjhdhfdaaDoor.seasonNone
