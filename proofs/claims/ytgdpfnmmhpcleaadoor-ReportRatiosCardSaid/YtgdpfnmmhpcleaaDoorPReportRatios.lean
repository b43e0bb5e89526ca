/-
  ReportRatios, for every input: the law returns true, and its arguments read as before. No condition.
-/
import Derived.Test.YtgdpfnmmhpcleaaDoorRows
import Derived.Test.YtgdpfnmmhpcleaaDoorTie
import Derived.Test.YtgdpfnmmhpcleaaDoorCards
import Derived.Test.YtgdpfnmmhpcleaaDoorLow
import Derived.Test.YtgdpfnmmhpcleaaDoorEvX
import Derived.Test.YtgdpfnmmhpcleaaDoorRepM
import Derived.Test.YtgdpfnmmhpcleaaDoorK52known
import Derived.Test.YtgdpfnmmhpcleaaDoorLaid
import Derived.WalkKit
import Derived.ChangeSame
import Derived.ChangeVars
import Derived.JoinedOf
import Derived.RowKitTokens
import Derived.LaidLaws
import Derived.Handed
import Derived.SevenTiedAt
import Derived.ProofKit
import Derived.OpenShut
import Derived.ShutString
namespace Go.Proofs.YtgdpfnmmhpcleaaDoor.reportRatios
open Go.ChangeShapes Go.WideShapes Go.ChangeAt Go.RowKit
open Go.ChangeMaps (open_string shut_string)
set_option linter.unusedVariables false
set_option linter.unusedSimpArgs false

theorem laid_met (os : Os) (args : Array Value) : laidMet Tryd.prog Rows.reportRatiosRow.laid ((Low.laidWorld os).forCall (fun _ _ => 0) ⟨#[], args, []⟩).memory :=
  laidMet_of_run' 8 (by kernel_rfl) (by kernel_rfl)
theorem own : ownKnob Tryd.prog.godebug = none := by kernel_rfl

theorem walk (a0 : Int) (a1 : Int) (w0 : (Lit.int .i64 a0).wf = true) (w1 : (Lit.int .i64 a1).wf = true) (w : World) (hl : laidMet Tryd.prog Rows.reportRatiosRow.laid w) :
    Calls Tryd.prog 13 #[.int .i64 a0, .int .i64 a1] w fun e w' => e = .returned (.bool true) ∧ Below w.heap.size w w' := by
  obtain ⟨v909, o909, k909⟩ := Ev.gr_anyB hl 3 "strconv.ErrRange" 9 (by kernel_rfl) (by kernel_rfl)
  obtain ⟨v908, o908, k908⟩ := Ev.gr_anyB hl 4 "strconv.ErrSyntax" 8 (by kernel_rfl) (by kernel_rfl)
  have HKN := Ev.known_later YtgdpfnmmhpcleaaDoorK52known.known (by kernel_rfl) (σ := fun i => match i with | 909 => v909 | 908 => v908 | _ => undef) w (Ev.gcons (Ev.gr_arrB hl 0 "math/bits.deBruijn32tab" 10 .u8 [0, 1, 28, 2, 29, 14, 24, 3, 30, 22, 20, 15, 25, 17, 4, 8, 31, 27, 13, 23, 21, 19, 16, 7, 26, 12, 18, 6, 11, 5, 10, 9] (by kernel_rfl) (by kernel_rfl)) (Ev.gcons (Ev.gr_arrB hl 1 "math/bits.deBruijn64tab" 11 .u8 [0, 1, 56, 2, 57, 49, 28, 3, 61, 58, 42, 50, 38, 29, 17, 4, 62, 47, 59, 36, 45, 43, 51, 22, 53, 39, 33, 30, 24, 18, 12, 5, 63, 55, 48, 27, 60, 41, 37, 16, 46, 35, 44, 21, 52, 32, 23, 11, 54, 26, 40, 15, 34, 20, 31, 10, 25, 14, 19, 9, 13, 8, 7, 6] (by kernel_rfl) (by kernel_rfl)) (Ev.gcons (Ev.gr_arrB hl 2 "internal/strconv.uint64pow10" 5 .u64 [1, 10, 100, 1000, 10000, 100000, 1000000, 10000000, 100000000, 1000000000, 10000000000, 100000000000, 1000000000000, 10000000000000, 100000000000000, 1000000000000000, 10000000000000000, 100000000000000000, 1000000000000000000, 10000000000000000000] (by kernel_rfl) (by kernel_rfl)) (Ev.gcons (k909 _ 909 rfl) (Ev.gcons (k908 _ 908 rfl) (Ev.gcons (Ev.gr_strB hl 5 "cubbyhole/event.words" 4 [[], [101, 120, 112, 105, 114, 101, 100], [101, 118, 105, 99, 116, 101, 100], [114, 101, 112, 108, 97, 99, 101, 100], [100, 101, 108, 101, 116, 101, 100], [99, 108, 101, 97, 114, 101, 100]] (by kernel_rfl) (by kernel_rfl)) (Ev.gcons (Ev.gr_strB hl 6 "cubbyhole/contest.words" 3 [[], [108, 114, 117], [115, 101, 103, 109, 101, 110, 116], [97, 114, 99], [108, 102, 117], [115, 101, 99, 111, 110, 100], [116, 119, 111, 113], [116, 105, 110, 121], [98, 101, 115, 116]] (by kernel_rfl) (by kernel_rfl)) (Ev.gcons (Ev.gr_strB hl 7 "cubbyhole/report.complaints" 2 [[], [116, 105, 109, 101], [101, 118, 101, 110, 116], [101, 120, 112, 105, 114, 121], [118, 105, 99, 116, 105, 109], [98, 117, 100, 103, 101, 116], [114, 101, 97, 100], [99, 117, 114, 115, 111, 114], [101, 114, 114, 111, 114]] (by kernel_rfl) (by kernel_rfl)) Ev.gnil)))))))) (Ev.hcons (Ev.Fact.sameI (by kernel_rfl)) (Ev.hcons (Ev.Fact.extI (by kernel_rfl)) (Ev.hcons (Ev.Fact.extI (by kernel_rfl)) (Ev.hcons (Ev.Fact.mkNZI #[3] 43 (by kernel_rfl) (by kernel_rfl)) (Ev.hcons Ev.Fact.bldI Ev.hnil)))))
  exact Num.rlaw_any a0 a1 w (Num.tabs_of hl 2 rfl) HKN

set_option maxRecDepth 100000 in
theorem lifted (os : Os) (started : os.Started) (H : Type) (enc : TypeId × Value → H) :
    ReturnsInHanded {} Tryd.checked os 13 .any (fun w args => (Rows.reportRatiosSpec.pre enc Tryd.prog Tryd.f13 Rows.reportRatiosRow.domain false w args ∧ laidMet Tryd.prog Rows.reportRatiosRow.laid w) ∧ sizedMet enc Tryd.prog Tryd.f13 (OpenSpec.ofChange Rows.reportRatiosSpec) false w args) (Rows.reportRatiosSpec.post enc Tryd.prog Tryd.f13 false true false false) := by
  refine returnsInHanded_of_change_and (C := Tryd.checked) (X := fun w _ => laidMet Tryd.prog Rows.reportRatiosRow.laid w) (fun _ _ _ hh h => h.of_heap hh) own started (by kernel_rfl) Tryd.func13
    (ChangeSpec.witness_at (enc := enc) (C := Tryd.checked) (os := os) (X := fun w _ => laidMet Tryd.prog Rows.reportRatiosRow.laid w) false (Low.laidWorld os) #[.int .i64 0, .int .i64 0] 8 rfl (by kernel_rfl) (by kernel_rfl) (by kernel_rfl) (by kernel_rfl) (by kernel_rfl) (laid_met os _)) ?_
  intro W base args ds gs before hval0 hW hcnd _ hL _
  have hval : ∀ (j : Nat) t v, Tryd.f13.params[j]? = some t → args[j]? = some v → Value.okWide Tryd.prog W .any base t v := hval0
  have hW' := hW
  obtain ⟨p, q, hA0, hV, rfl, hfz, hnd⟩ := hW
  have hA : DataW.TrodAll enc Tryd.prog W 0 (fun _ => true) true Tryd.f13.params.toList args.toList ds p := hA0
  rw [Tryd.params13] at hA hval
  obtain ⟨v0, vs0, d0, ds0, p0, q0, hargs, rfl, rfl, h0, r0⟩ := trodAll_cons hA
  obtain ⟨v1, vs1, d1, ds1, p1, q1, rfl, rfl, rfl, h1, r1⟩ := trodAll_cons r0
  obtain ⟨rfl, rfl, rfl⟩ := trodAll_nil r1
  obtain rfl : args = #[v0, v1] := by cases args; simp_all
  obtain ⟨rfl, rfl⟩ := trodVars_none hV
  obtain ⟨a0, rfl, rfl, rfl, w0⟩ := open_int Tryd.underlying3 (hval 0 3 v0 rfl rfl) h0
  obtain ⟨a1, rfl, rfl, rfl, w1⟩ := open_int Tryd.underlying3 (hval 1 3 v1 rfl rfl) h1
  clear hA0 hval0
  simp only [List.append_nil] at hW'
  refine (walk a0 a1 w0 w1 W hL).mono fun e W' ⟨he, bel⟩ => ?_
  subst he
  exact ⟨_, rfl, _, _, _, [], _, [], hW', trodAll_mk1 (shut_bool Tryd.underlying4 _), (trodAll_cons_mk (shut_int Tryd.underlying3 w0) (trodAll_cons_mk (shut_int Tryd.underlying3 w1) trodAll_mk0)), rfl, bel.frame _, fun h => by cases h⟩

theorem over : Rows.reportRatiosRow.holds Tryd.pinned (OpenSpec.ofChange Rows.reportRatiosSpec) :=
  OpenClaim.holds_of_wide 13 Tryd.f13 rfl rfl rfl rfl rfl rfl rfl ⟨rfl, rfl, rfl, rfl, rfl⟩ rfl rfl rfl rfl rfl (by kernel_rfl) Tryd.func13 (by kernel_rfl)
    (of_decide_eq_true (by kernel_rfl)) (by unfold Func.isWrapper; first | (rw [if_pos (by decide +kernel)]; kernel_rfl) | (rw [if_neg (by decide +kernel)]; exact ⟨rfl, rfl⟩))
    (fun os started H enc _ => lifted os started H enc)

theorem proved : Rows.ReportRatiosCardSaid :=
  Claim7.holds_tied_plain_at .later [] [.data, .data, .data, .sentinel, .sentinel, .data, .data, .data] true (true, "b35991c87aa6dcef8c5a1aa721275c6ca37e1d8ef6b6815cb7de330e8f5c879c") true
    over (fun _ h => by cases h) (by kernel_rfl) (fun _ h => by cases h) reportRatios_row_tie rfl ⟨rfl, rfl⟩ (by kernel_rfl) rfl
    (fun f fn hf hfn => by
      obtain rfl : f = 13 := Option.some.inj ((show Tryd.prog.funcNamed "cubbyhole/cubbyholelaw52.ReportRatios" = some 13 by kernel_rfl).symm.trans hf) |>.symm
      obtain rfl : fn = Tryd.f13 := (Option.some.inj (Tryd.func13.symm.trans hfn)).symm
      exact ⟨by kernel_rfl, fun j t ht => Ev.standIns (ps := Tryd.f13.params) (f := Tryd.prog.wantsStandIn) (by kernel_rfl) ht⟩)
    (by kernel_rfl)
#print axioms proved
end Go.Proofs.YtgdpfnmmhpcleaaDoor.reportRatios
