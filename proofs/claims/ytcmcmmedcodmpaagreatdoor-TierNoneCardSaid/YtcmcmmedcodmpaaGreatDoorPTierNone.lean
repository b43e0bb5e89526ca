/-
  TierNone, for every input: the law returns true, and its arguments read as before. No condition.
-/
import Derived.Test.YtcmcmmedcodmpaaGreatDoorRows
import Derived.Test.YtcmcmmedcodmpaaGreatDoorJTierNone0
import Derived.Test.YtcmcmmedcodmpaaGreatDoorJTierNone1
import Derived.Test.YtcmcmmedcodmpaaGreatDoorJTierNone2
import Derived.Test.YtcmcmmedcodmpaaGreatDoorJTierNone3
import Derived.Test.YtcmcmmedcodmpaaGreatDoorJTierNone4
import Derived.Test.YtcmcmmedcodmpaaGreatDoorLTierNone
import Derived.Test.YtcmcmmedcodmpaaGreatDoorTie
import Derived.Test.YtcmcmmedcodmpaaGreatDoorCards
import Derived.Test.YtcmcmmedcodmpaaGreatDoorLow
import Derived.Test.YtcmcmmedcodmpaaGreatDoorEvX
import Derived.Test.YtcmcmmedcodmpaaGreatDoorK42known
import Derived.Test.YtcmcmmedcodmpaaGreatDoorSl
import Derived.Test.YtcmcmmedcodmpaaGreatDoorLaid
import Derived.WalkKit
import Derived.ChangeSame
import Derived.ChangeVars
import Derived.JoinedOf
import Derived.RowKitTokens
import Derived.LaidLaws
import Derived.Handed
import Derived.SevenTiedAt
import Derived.ProofKit
import Derived.OpenShut
import Derived.ShutString
import Derived.ChangeOld
import Derived.Below
import Derived.Carry
import Derived.WideShapes
namespace Go.Proofs.YtcmcmmedcodmpaaGreatDoor.tierNone
open Go.ChangeShapes Go.WideShapes Go.ChangeAt Go.RowKit
open Go.ChangeMaps (open_string shut_string)
set_option linter.unusedVariables false
set_option linter.unusedSimpArgs false

theorem both_i {a b : Bool} (h : a = true) (k : b = true) : (a && b) = true := by rw [h, k]; rfl
set_option maxRecDepth 100000 in
theorem joined : joinedFacts Tryz.prog 3 Tryz.f3 Rows.tierNoneSpec Rows.tierNoneRow = true := by
  unfold joinedFacts
  exact (both_i (both_i (both_i (both_i (both_i (both_i (both_i (both_i (both_i (both_i (both_i (both_i (both_i (both_i (both_i (both_i (both_i (both_i (both_i (both_i (both_i (both_i (both_i (both_i (both_i (both_i (both_i (both_i (both_i (both_i (both_i (by kernel_rfl) closed2) closed3) (by kernel_rfl)) (by kernel_rfl)) (by kernel_rfl)) (by kernel_rfl)) (by kernel_rfl)) (by kernel_rfl)) closed10) closed11) closed12) closed13) (by kernel_rfl)) (by kernel_rfl)) (by kernel_rfl)) (by kernel_rfl)) (by kernel_rfl)) (by kernel_rfl)) (by kernel_rfl)) (by kernel_rfl)) (by kernel_rfl)) closed23) (by kernel_rfl)) closed25) closed26) (by kernel_rfl)) (by kernel_rfl)) (by kernel_rfl)) (by kernel_rfl)) (by kernel_rfl)) (by kernel_rfl))
set_option maxHeartbeats 40000000 in
theorem over : Rows.tierNoneRow.holds Tryz.pinned (OpenSpec.ofChange Rows.tierNoneSpec) :=
  OpenClaim.holds_of_wide 3 Tryz.f3 rfl rfl rfl rfl rfl rfl rfl ⟨rfl, rfl, rfl, rfl, rfl⟩ rfl rfl rfl rfl rfl (by as_aux_lemma => kernel_rfl) Tryz.func3 joined
    (of_decide_eq_true (by as_aux_lemma => kernel_rfl)) (by unfold Func.isWrapper; first | (rw [if_pos (by decide +kernel)]; as_aux_lemma => kernel_rfl) | (rw [if_neg (by decide +kernel)]; exact ⟨rfl, rfl⟩))
    (fun os started H enc _ => lifted os started H enc)

theorem proved : Rows.TierNoneCardSaid :=
  Claim7.holds_tied_plain_at .later [] [.data] true (true, "4f46ae792e7449da34e9537eebe64788e089d2a0b27fb7754386d039ae32a500") true
    over (fun _ h => by cases h) (by as_aux_lemma => kernel_rfl) (fun _ h => by cases h) tierNone_row_tie rfl ⟨rfl, rfl⟩ (by as_aux_lemma => kernel_rfl) rfl
    (fun f fn hf hfn => by
      obtain rfl : f = 3 := Option.some.inj ((show Tryz.prog.funcNamed "cubbyhole/cubbyholelaw42.TierNone" = some 3 by kernel_rfl).symm.trans hf) |>.symm
      obtain rfl : fn = Tryz.f3 := (Option.some.inj (Tryz.func3.symm.trans hfn)).symm
      exact ⟨by kernel_rfl, fun j t ht => Ev.standIns (ps := Tryz.f3.params) (f := Tryz.prog.wantsStandIn) (by as_aux_lemma => kernel_rfl) ht⟩)
    (by as_aux_lemma => kernel_rfl)
#print axioms proved
end Go.Proofs.YtcmcmmedcodmpaaGreatDoor.tierNone
