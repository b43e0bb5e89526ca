/-
  ReportChecks, for every input: the law returns true, and its arguments read as before. No condition.
-/
import Derived.Test.YtjkjcmhlbimeaaaDoorRows
import Derived.Test.YtjkjcmhlbimeaaaDoorTie
import Derived.Test.YtjkjcmhlbimeaaaDoorCards
import Derived.Test.YtjkjcmhlbimeaaaDoorLow
import Derived.Test.YtjkjcmhlbimeaaaDoorEvX
import Derived.Test.YtjkjcmhlbimeaaaDoorRcA
import Derived.Test.YtjkjcmhlbimeaaaDoorK52known
import Derived.Test.YtjkjcmhlbimeaaaDoorSl
import Derived.Test.YtjkjcmhlbimeaaaDoorLaid
import Derived.WalkKit
import Derived.ChangeSame
import Derived.ChangeVars
import Derived.JoinedOf
import Derived.RowKitTokens
import Derived.LaidLaws
import Derived.Handed
import Derived.SevenTiedAt
import Derived.ProofKit
import Derived.OpenShut
import Derived.ShutString
import Derived.ChangeOld
import Derived.Below
import Derived.Carry
import Derived.WideShapes
namespace Go.Proofs.YtjkjcmhlbimeaaaDoor.reportChecks
open Go.ChangeShapes Go.WideShapes Go.ChangeAt Go.RowKit
open Go.ChangeMaps (open_string shut_string)
set_option linter.unusedVariables false
set_option linter.unusedSimpArgs false

theorem laid_met (os : Os) (args : Array Value) : laidMet Tryd.prog Rows.reportChecksRow.laid ((Low.laidWorld os).forCall (fun _ _ => 0) ⟨#[], args, []⟩).memory :=
  laidMet_of_run' 8 (by kernel_rfl) (by kernel_rfl)
theorem own : ownKnob Tryd.prog.godebug = none := by kernel_rfl
theorem laidOut : laidOutB Tryd.prog = true := by kernel_rfl

theorem walk (a0_0 : Int) (a0_1 : Int) (w0_0 : (Lit.int .i64 a0_0).wf = true) (w0_1 : (Lit.int .i64 a0_1).wf = true) (w : World)     (hl : laidMet Tryd.prog Rows.reportChecksRow.laid w) :
    Calls Tryd.prog 9 #[.agg #[.int .i64 a0_0, .int .i64 a0_1]] w fun e w' => e = .returned (.bool true) ∧ Below w.heap.size w w' := by
  obtain ⟨v907, o907, k907⟩ := Ev.gr_anyB hl 3 "strconv.ErrRange" 7 (by kernel_rfl) (by kernel_rfl)
  obtain ⟨v906, o906, k906⟩ := Ev.gr_anyB hl 4 "strconv.ErrSyntax" 6 (by kernel_rfl) (by kernel_rfl)
  have HKN := Ev.known_later YtjkjcmhlbimeaaaDoorK52known.known (by kernel_rfl) (σ := fun i => match i with | 907 => v907 | 906 => v906 | _ => undef) w (Ev.gcons (Ev.gr_arrB hl 0 "math/bits.deBruijn32tab" 8 .u8 [0, 1, 28, 2, 29, 14, 24, 3, 30, 22, 20, 15, 25, 17, 4, 8, 31, 27, 13, 23, 21, 19, 16, 7, 26, 12, 18, 6, 11, 5, 10, 9] (by kernel_rfl) (by kernel_rfl)) (Ev.gcons (Ev.gr_arrB hl 1 "math/bits.deBruijn64tab" 9 .u8 [0, 1, 56, 2, 57, 49, 28, 3, 61, 58, 42, 50, 38, 29, 17, 4, 62, 47, 59, 36, 45, 43, 51, 22, 53, 39, 33, 30, 24, 18, 12, 5, 63, 55, 48, 27, 60, 41, 37, 16, 46, 35, 44, 21, 52, 32, 23, 11, 54, 26, 40, 15, 34, 20, 31, 10, 25, 14, 19, 9, 13, 8, 7, 6] (by kernel_rfl) (by kernel_rfl)) (Ev.gcons (Ev.gr_arrB hl 2 "internal/strconv.uint64pow10" 5 .u64 [1, 10, 100, 1000, 10000, 100000, 1000000, 10000000, 100000000, 1000000000, 10000000000, 100000000000, 1000000000000, 10000000000000, 100000000000000, 1000000000000000, 10000000000000000, 100000000000000000, 1000000000000000000, 10000000000000000000] (by kernel_rfl) (by kernel_rfl)) (Ev.gcons (k907 _ 907 rfl) (Ev.gcons (k906 _ 906 rfl) (Ev.gcons (Ev.gr_strB hl 5 "cubbyhole/event.words" 2 [[], [101, 120, 112, 105, 114, 101, 100], [101, 118, 105, 99, 116, 101, 100], [114, 101, 112, 108, 97, 99, 101, 100], [100, 101, 108, 101, 116, 101, 100], [99, 108, 101, 97, 114, 101, 100]] (by kernel_rfl) (by kernel_rfl)) (Ev.gcons (Ev.gr_strB hl 6 "cubbyhole/contest.words" 4 [[], [108, 114, 117], [115, 101, 103, 109, 101, 110, 116], [97, 114, 99], [108, 102, 117], [115, 101, 99, 111, 110, 100], [116, 119, 111, 113], [116, 105, 110, 121], [98, 101, 115, 116]] (by kernel_rfl) (by kernel_rfl)) (Ev.gcons (Ev.gr_strB hl 7 "cubbyhole/report.complaints" 1 [[], [116, 105, 109, 101], [101, 118, 101, 110, 116], [101, 120, 112, 105, 114, 121], [118, 105, 99, 116, 105, 109], [98, 117, 100, 103, 101, 116], [114, 101, 97, 100], [99, 117, 114, 115, 111, 114], [101, 114, 114, 111, 114]] (by kernel_rfl) (by kernel_rfl)) Ev.gnil)))))))) (Ev.hcons (Ev.Fact.sameI (by kernel_rfl)) (Ev.hcons (Ev.Fact.extI (by kernel_rfl)) (Ev.hcons (Ev.Fact.extI (by kernel_rfl)) (Ev.hcons Ev.Fact.bldI Ev.hnil))))
  have b0 := Ev.wf_i64 w0_0
  exact Num.lchecks_any (by omega) w (Num.tabs_of hl 2 rfl) (Num.cw_of hl 7 rfl) HKN

set_option maxRecDepth 100000 in
theorem lifted (os : Os) (started : os.Started) (H : Type) (enc : TypeId × Value → H) :
    ReturnsInHanded {} Tryd.checked os 9 .any (fun w args => (Rows.reportChecksSpec.pre enc Tryd.prog Tryd.f9 Rows.reportChecksRow.domain false w args ∧ laidMet Tryd.prog Rows.reportChecksRow.laid w) ∧ sizedMet enc Tryd.prog Tryd.f9 (OpenSpec.ofChange Rows.reportChecksSpec) false w args) (Rows.reportChecksSpec.post enc Tryd.prog Tryd.f9 false true false false) := by
  refine returnsInHanded_of_change_and (C := Tryd.checked) (X := fun w _ => laidMet Tryd.prog Rows.reportChecksRow.laid w) (fun _ _ _ hh h => h.of_heap hh) own started (by kernel_rfl) Tryd.func9
    (ChangeSpec.witness_at (enc := enc) (C := Tryd.checked) (os := os) (X := fun w _ => laidMet Tryd.prog Rows.reportChecksRow.laid w) false (Low.laidWorld os) #[.agg #[.int .i64 0, .int .i64 0]] 8 rfl (by kernel_rfl) (by kernel_rfl) (by kernel_rfl) (by kernel_rfl) (by kernel_rfl) (laid_met os _)) ?_
  intro W base args ds gs before hval0 hW hcnd _ hL _
  have hval : ∀ (j : Nat) t v, Tryd.f9.params[j]? = some t → args[j]? = some v → Value.okWide Tryd.prog W .any base t v := hval0
  have hW' := hW
  obtain ⟨p, q, hA0, hV, rfl, hfz, hnd⟩ := hW
  have hA : DataW.TrodAll enc Tryd.prog W 0 (fun _ => true) true Tryd.f9.params.toList args.toList ds p := hA0
  rw [Tryd.params9] at hA hval
  obtain ⟨v0, vs0, d0, ds0, p0, q0, hargs, rfl, rfl, h0, r0⟩ := trodAll_cons hA
  obtain ⟨rfl, rfl, rfl⟩ := trodAll_nil r0
  obtain rfl : args = #[v0] := by cases args; simp_all
  obtain ⟨rfl, rfl⟩ := trodVars_none hV
  have k0 := h0
  have lt0 : ∀ x ∈ p0, x.block < W.heap.size := by obtain ⟨m, hm⟩ := k0; exact DataW.trod_lt m _ _ _ hm
  obtain ⟨cs0, rfl, hs0⟩ := okWide_struct Tryd.underlying66 (hval 0 66 v0 rfl rfl)
  obtain ⟨fu0_0, x0_0, f0_0⟩ := Ev.field_of Tryd.underlying66 h0 0 rfl
  obtain ⟨a0_0, e0_0, w0_0⟩ := Ev.cell_int (o := 0) (by kernel_rfl : Tryd.prog.underlying 3 = some (.int .i64)) (by kernel_rfl) f0_0
  obtain ⟨fu0_1, x0_1, f0_1⟩ := Ev.field_of Tryd.underlying66 h0 1 rfl
  obtain ⟨a0_1, e0_1, w0_1⟩ := Ev.cell_int (o := 1) (by kernel_rfl : Tryd.prog.underlying 64 = some (.int .i64)) (by kernel_rfl) f0_1
  obtain rfl : cs0 = #[.int .i64 a0_0, .int .i64 a0_1] := Ev.cells_eq [.int .i64 a0_0, .int .i64 a0_1] (hs0.trans (by kernel_rfl)) fun j v hj => match j, hj with
    | 0, hj => by cases hj; exact e0_0
    | 1, hj => by cases hj; exact e0_1
    | j + 2, hj => by cases hj
  clear hA0 hval0
  simp only [List.append_nil] at hW'
  refine (walk a0_0 a0_1 w0_0 w0_1 W hL).mono fun e W' ⟨he, bel⟩ => ?_
  subst he
  exact ⟨_, rfl, _, _, _, [], _, [], hW', trodAll_mk1 (shut_bool (by kernel_rfl : Tryd.prog.underlying 4 = some .bool) _), (trodAll_cons_mk (Below.trod laidOut (by kernel_rfl) (of_decide_eq_true (by kernel_rfl)) k0 bel lt0) trodAll_mk0), rfl, bel.frame _, fun h => by cases h⟩

theorem over : Rows.reportChecksRow.holds Tryd.pinned (OpenSpec.ofChange Rows.reportChecksSpec) :=
  OpenClaim.holds_of_wide 9 Tryd.f9 rfl rfl rfl rfl rfl rfl rfl ⟨rfl, rfl, rfl, rfl, rfl⟩ rfl rfl rfl rfl rfl (by kernel_rfl) Tryd.func9 (by kernel_rfl)
    (of_decide_eq_true (by kernel_rfl)) (by unfold Func.isWrapper; first | (rw [if_pos (by decide +kernel)]; kernel_rfl) | (rw [if_neg (by decide +kernel)]; exact ⟨rfl, rfl⟩))
    (fun os started H enc _ => lifted os started H enc)

theorem proved : Rows.ReportChecksCardSaid :=
  Claim7.holds_tied_plain_at .later [] [.data, .data, .data, .sentinel, .sentinel, .data, .data, .data] true (true, "74eb2707b886aecb21290e6e0725d92849d05f361945f62f16ac1d91c9f6fd03") true
    over (fun _ h => by cases h) (by kernel_rfl) (fun _ h => by cases h) reportChecks_row_tie rfl ⟨rfl, rfl⟩ (by kernel_rfl) rfl
    (fun f fn hf hfn => by
      obtain rfl : f = 9 := Option.some.inj ((show Tryd.prog.funcNamed "cubbyhole/cubbyholelaw52.ReportChecks" = some 9 by kernel_rfl).symm.trans hf) |>.symm
      obtain rfl : fn = Tryd.f9 := (Option.some.inj (Tryd.func9.symm.trans hfn)).symm
      exact ⟨by kernel_rfl, fun j t ht => Ev.standIns (ps := Tryd.f9.params) (f := Tryd.prog.wantsStandIn) (by kernel_rfl) ht⟩)
    (by kernel_rfl)
#print axioms proved
end Go.Proofs.YtjkjcmhlbimeaaaDoor.reportChecks
