/-
  CursorNone, for every input: the law returns true, and its arguments read as before. No condition.
-/
import Derived.Test.YthpgjakenfhgfaaGreatDoorRows
import Derived.Test.YthpgjakenfhgfaaGreatDoorJCursorNone0
import Derived.Test.YthpgjakenfhgfaaGreatDoorJCursorNone1
import Derived.Test.YthpgjakenfhgfaaGreatDoorJCursorNone2
import Derived.Test.YthpgjakenfhgfaaGreatDoorJCursorNone3
import Derived.Test.YthpgjakenfhgfaaGreatDoorJCursorNone4
import Derived.Test.YthpgjakenfhgfaaGreatDoorLCursorNone
import Derived.Test.YthpgjakenfhgfaaGreatDoorTie
import Derived.Test.YthpgjakenfhgfaaGreatDoorCards
import Derived.Test.YthpgjakenfhgfaaGreatDoorLow
import Derived.Test.YthpgjakenfhgfaaGreatDoorEvX
import Derived.Test.YthpgjakenfhgfaaGreatDoorK25known
import Derived.Test.YthpgjakenfhgfaaGreatDoorLaid
import Derived.WalkKit
import Derived.ChangeSame
import Derived.ChangeVars
import Derived.JoinedOf
import Derived.RowKitTokens
import Derived.LaidLaws
import Derived.Handed
import Derived.SevenTiedAt
import Derived.ProofKit
import Derived.OpenShut
import Derived.ShutString
namespace Go.Proofs.YthpgjakenfhgfaaGreatDoor.cursorNone
open Go.ChangeShapes Go.WideShapes Go.ChangeAt Go.RowKit
open Go.ChangeMaps (open_string shut_string)
set_option linter.unusedVariables false
set_option linter.unusedSimpArgs false

theorem both_i {a b : Bool} (h : a = true) (k : b = true) : (a && b) = true := by rw [h, k]; rfl
set_option maxRecDepth 100000 in
theorem joined : joinedFacts Tryz.prog 3 Tryz.f3 Rows.cursorNoneSpec Rows.cursorNoneRow = true := by
  unfold joinedFacts
  exact (both_i (both_i (both_i (both_i (both_i (both_i (both_i (both_i (both_i (both_i (both_i (both_i (both_i (both_i (both_i (both_i (both_i (both_i (both_i (both_i (both_i (both_i (both_i (both_i (both_i (both_i (both_i (both_i (both_i (both_i (both_i (by kernel_rfl) closed2) closed3) (by kernel_rfl)) (by kernel_rfl)) (by kernel_rfl)) (by kernel_rfl)) (by kernel_rfl)) (by kernel_rfl)) closed10) closed11) closed12) closed13) (by kernel_rfl)) (by kernel_rfl)) (by kernel_rfl)) (by kernel_rfl)) (by kernel_rfl)) (by kernel_rfl)) (by kernel_rfl)) (by kernel_rfl)) (by kernel_rfl)) closed23) (by kernel_rfl)) closed25) closed26) (by kernel_rfl)) (by kernel_rfl)) (by kernel_rfl)) (by kernel_rfl)) (by kernel_rfl)) (by kernel_rfl))
set_option maxHeartbeats 40000000 in
theorem over : Rows.cursorNoneRow.holds Tryz.pinned (OpenSpec.ofChange Rows.cursorNoneSpec) :=
  OpenClaim.holds_of_wide 3 Tryz.f3 rfl rfl rfl rfl rfl rfl rfl ⟨rfl, rfl, rfl, rfl, rfl⟩ rfl rfl rfl rfl rfl (by as_aux_lemma => kernel_rfl) Tryz.func3 joined
    (of_decide_eq_true (by as_aux_lemma => kernel_rfl)) (by unfold Func.isWrapper; first | (rw [if_pos (by decide +kernel)]; as_aux_lemma => kernel_rfl) | (rw [if_neg (by decide +kernel)]; exact ⟨rfl, rfl⟩))
    (fun os started H enc _ => lifted os started H enc)

theorem proved : Rows.CursorNoneCardSaid :=
  Claim7.holds_tied_plain_at .later [] [.data] true (true, "2753331b8aca94d3eaecac20356441dbe65019a50b77b4743e2d7e16d51b09e2") true
    over (fun _ h => by cases h) (by as_aux_lemma => kernel_rfl) (fun _ h => by cases h) cursorNone_row_tie rfl ⟨rfl, rfl⟩ (by as_aux_lemma => kernel_rfl) rfl
    (fun f fn hf hfn => by
      obtain rfl : f = 3 := Option.some.inj ((show Tryz.prog.funcNamed "cubbyhole/cubbyholelaw25.CursorNone" = some 3 by kernel_rfl).symm.trans hf) |>.symm
      obtain rfl : fn = Tryz.f3 := (Option.some.inj (Tryz.func3.symm.trans hfn)).symm
      exact ⟨by kernel_rfl, fun j t ht => Ev.standIns (ps := Tryz.f3.params) (f := Tryz.prog.wantsStandIn) (by as_aux_lemma => kernel_rfl) ht⟩)
    (by as_aux_lemma => kernel_rfl)
#print axioms proved
end Go.Proofs.YthpgjakenfhgfaaGreatDoor.cursorNone
