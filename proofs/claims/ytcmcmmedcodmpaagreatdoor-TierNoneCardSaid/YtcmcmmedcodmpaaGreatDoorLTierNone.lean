/-
  TierNone, for every input: the law returns true, and its arguments read as before. No condition.
-/
import Derived.Test.YtcmcmmedcodmpaaGreatDoorRows
import Derived.Test.YtcmcmmedcodmpaaGreatDoorTie
import Derived.Test.YtcmcmmedcodmpaaGreatDoorCards
import Derived.Test.YtcmcmmedcodmpaaGreatDoorLow
import Derived.Test.YtcmcmmedcodmpaaGreatDoorEvX
import Derived.Test.YtcmcmmedcodmpaaGreatDoorK42known
import Derived.Test.YtcmcmmedcodmpaaGreatDoorCTierNone0
import Derived.Test.YtcmcmmedcodmpaaGreatDoorSl
import Derived.Test.YtcmcmmedcodmpaaGreatDoorLaid
import Derived.WalkKit
import Derived.ChangeSame
import Derived.ChangeVars
import Derived.JoinedOf
import Derived.RowKitTokens
import Derived.LaidLaws
import Derived.Handed
import Derived.SevenTiedAt
import Derived.ProofKit
import Derived.OpenShut
import Derived.ShutString
import Derived.ChangeOld
import Derived.Below
import Derived.Carry
import Derived.WideShapes
namespace Go.Proofs.YtcmcmmedcodmpaaGreatDoor.tierNone
open Go.ChangeShapes Go.WideShapes Go.ChangeAt Go.RowKit
open Go.ChangeMaps (open_string shut_string)
set_option linter.unusedVariables false
set_option linter.unusedSimpArgs false

theorem laid_met (os : Os) (args : Array Value) : laidMet Tryz.prog Rows.tierNoneRow.laid ((Low.laidWorld os).forCall (fun _ _ => 0) ⟨#[], args, []⟩).memory :=
  laidMet_of_run' 8 (by kernel_rfl) (by kernel_rfl)
theorem own : ownKnob Tryz.prog.godebug = none := by kernel_rfl
theorem laidOut : laidOutB Tryz.prog = true := by kernel_rfl

theorem walk (a0_0 : Int) (a0_1 : Int) (a0_2 : Int) (a0_3 : ByteArray) (a0_4 : Option Addr) (l0_4 c0_4 : Nat) (w0_0 : (Lit.int .i64 a0_0).wf = true) (w0_1 : (Lit.int .u64 a0_1).wf = true) (w0_2 : (Lit.int .u64 a0_2).wf = true) (w0_3 : a0_3.size ≤ maxLen) (w : World)   (hl : laidMet Tryz.prog Rows.tierNoneRow.laid w) :
    Calls Tryz.prog 3 #[.agg #[.int .i64 a0_0, .int .u64 a0_1, .int .u64 a0_2, .string a0_3, .slice a0_4 l0_4 c0_4]] w fun e w' => e = .returned (.bool true) ∧ Below w.heap.size w w' := by
  by_cases c0 : 100 < a0_3.size
  · refine Ev.eval_case case0 (by kernel_rfl) (fun i => match i with | 0 => .int .i64 a0_0 | 1 => .int .u64 a0_1 | 2 => .int .u64 a0_2 | 3 => .string a0_3 | 4 => .slice a0_4 l0_4 c0_4 | 5 => .int .i64 (a0_3.size : Int) | _ => undef) w (Ev.gcons (Ev.gr_arrB hl 0 "math/bits.deBruijn64tab" 0 .u8 [0, 1, 56, 2, 57, 49, 28, 3, 61, 58, 42, 50, 38, 29, 17, 4, 62, 47, 59, 36, 45, 43, 51, 22, 53, 39, 33, 30, 24, 18, 12, 5, 63, 55, 48, 27, 60, 41, 37, 16, 46, 35, 44, 21, 52, 32, 23, 11, 54, 26, 40, 15, 34, 20, 31, 10, 25, 14, 19, 9, 13, 8, 7, 6] (by kernel_rfl) (by kernel_rfl)) Ev.gnil) (.cons (.agg (.cons (.opq 0 rfl) (.cons (.opq 1 rfl) (.cons (.opq 2 rfl) (.cons (.opq 3 rfl) (.cons (.opq 4 rfl) (.nil))))))) (.nil)) ?_
    exact Ev.hcons (Ev.Fact.lenS rfl rfl (by kernel_rfl)) (Ev.hcons (Ev.Fact.cmp (.inl ⟨5, rfl, rfl⟩) (.inr rfl) rfl rfl (by simp only [Ev.intOp, Ev.iBlt_eq, Ev.iBeq_eq, Option.some.injEq, Value.bool.injEq, Bool.not_eq_true', Bool.not_eq_false', decide_eq_true_eq, decide_eq_false_iff_not, beq_iff_eq, beq_eq_false_iff_ne, ne_eq] <;> omega)) (Ev.hcons (Ev.Fact.knownX YtcmcmmedcodmpaaGreatDoorK42known.known (by kernel_rfl) YtcmcmmedcodmpaaGreatDoorK42known.hE) (Ev.hnil)))
  by_cases c1 : 100 < l0_4
  · refine Ev.eval_case case1 (by kernel_rfl) (fun i => match i with | 0 => .int .i64 a0_0 | 1 => .int .u64 a0_1 | 2 => .int .u64 a0_2 | 3 => .string a0_3 | 4 => .slice a0_4 l0_4 c0_4 | 5 => .int .i64 (a0_3.size : Int) | 6 => .int .i64 (l0_4 : Int) | _ => undef) w (Ev.gcons (Ev.gr_arrB hl 0 "math/bits.deBruijn64tab" 0 .u8 [0, 1, 56, 2, 57, 49, 28, 3, 61, 58, 42, 50, 38, 29, 17, 4, 62, 47, 59, 36, 45, 43, 51, 22, 53, 39, 33, 30, 24, 18, 12, 5, 63, 55, 48, 27, 60, 41, 37, 16, 46, 35, 44, 21, 52, 32, 23, 11, 54, 26, 40, 15, 34, 20, 31, 10, 25, 14, 19, 9, 13, 8, 7, 6] (by kernel_rfl) (by kernel_rfl)) Ev.gnil) (.cons (.agg (.cons (.opq 0 rfl) (.cons (.opq 1 rfl) (.cons (.opq 2 rfl) (.cons (.opq 3 rfl) (.cons (.opq 4 rfl) (.nil))))))) (.nil)) ?_
    exact Ev.hcons (Ev.Fact.lenS rfl rfl (by kernel_rfl)) (Ev.hcons (Ev.Fact.cmp (.inl ⟨5, rfl, rfl⟩) (.inr rfl) rfl rfl (by simp only [Ev.intOp, Ev.iBlt_eq, Ev.iBeq_eq, Option.some.injEq, Value.bool.injEq, Bool.not_eq_true', Bool.not_eq_false', decide_eq_true_eq, decide_eq_false_iff_not, beq_iff_eq, beq_eq_false_iff_ne, ne_eq] <;> omega)) (Ev.hcons (Ev.Fact.lenL rfl rfl (by kernel_rfl)) (Ev.hcons (Ev.Fact.cmp (.inl ⟨6, rfl, rfl⟩) (.inr rfl) rfl rfl (by simp only [Ev.intOp, Ev.iBlt_eq, Ev.iBeq_eq, Option.some.injEq, Value.bool.injEq, Bool.not_eq_true', Bool.not_eq_false', decide_eq_true_eq, decide_eq_false_iff_not, beq_iff_eq, beq_eq_false_iff_ne, ne_eq] <;> omega)) (Ev.hcons (Ev.Fact.knownX YtcmcmmedcodmpaaGreatDoorK42known.known (by kernel_rfl) YtcmcmmedcodmpaaGreatDoorK42known.hE) (Ev.hnil)))))
  refine Ev.eval_case case2 (by kernel_rfl) (fun i => match i with | 0 => .int .i64 a0_0 | 1 => .int .u64 a0_1 | 2 => .int .u64 a0_2 | 3 => .string a0_3 | 4 => .slice a0_4 l0_4 c0_4 | 5 => .int .i64 (a0_3.size : Int) | 6 => .int .i64 (l0_4 : Int) | _ => undef) w (Ev.gcons (Ev.gr_arrB hl 0 "math/bits.deBruijn64tab" 0 .u8 [0, 1, 56, 2, 57, 49, 28, 3, 61, 58, 42, 50, 38, 29, 17, 4, 62, 47, 59, 36, 45, 43, 51, 22, 53, 39, 33, 30, 24, 18, 12, 5, 63, 55, 48, 27, 60, 41, 37, 16, 46, 35, 44, 21, 52, 32, 23, 11, 54, 26, 40, 15, 34, 20, 31, 10, 25, 14, 19, 9, 13, 8, 7, 6] (by kernel_rfl) (by kernel_rfl)) Ev.gnil) (.cons (.agg (.cons (.opq 0 rfl) (.cons (.opq 1 rfl) (.cons (.opq 2 rfl) (.cons (.opq 3 rfl) (.cons (.opq 4 rfl) (.nil))))))) (.nil)) ?_
  exact Ev.hcons (Ev.Fact.lenS rfl rfl (by kernel_rfl)) (Ev.hcons (Ev.Fact.cmp (.inl ⟨5, rfl, rfl⟩) (.inr rfl) rfl rfl (by simp only [Ev.intOp, Ev.iBlt_eq, Ev.iBeq_eq, Option.some.injEq, Value.bool.injEq, Bool.not_eq_true', Bool.not_eq_false', decide_eq_true_eq, decide_eq_false_iff_not, beq_iff_eq, beq_eq_false_iff_ne, ne_eq] <;> omega)) (Ev.hcons (Ev.Fact.lenL rfl rfl (by kernel_rfl)) (Ev.hcons (Ev.Fact.cmp (.inl ⟨6, rfl, rfl⟩) (.inr rfl) rfl rfl (by simp only [Ev.intOp, Ev.iBlt_eq, Ev.iBeq_eq, Option.some.injEq, Value.bool.injEq, Bool.not_eq_true', Bool.not_eq_false', decide_eq_true_eq, decide_eq_false_iff_not, beq_iff_eq, beq_eq_false_iff_ne, ne_eq] <;> omega)) (Ev.hcons (Ev.Fact.knownX YtcmcmmedcodmpaaGreatDoorK42known.known (by kernel_rfl) YtcmcmmedcodmpaaGreatDoorK42known.hE) (Ev.hnil)))))

set_option maxRecDepth 100000 in
theorem lifted (os : Os) (started : os.Started) (H : Type) (enc : TypeId × Value → H) :
    ReturnsInHanded {} Tryz.checked os 3 .any (fun w args => (Rows.tierNoneSpec.pre enc Tryz.prog Tryz.f3 Rows.tierNoneRow.domain false w args ∧ laidMet Tryz.prog Rows.tierNoneRow.laid w) ∧ sizedMet enc Tryz.prog Tryz.f3 (OpenSpec.ofChange Rows.tierNoneSpec) false w args) (Rows.tierNoneSpec.post enc Tryz.prog Tryz.f3 false true false false) := by
  refine returnsInHanded_of_change_and (C := Tryz.checked) (X := fun w _ => laidMet Tryz.prog Rows.tierNoneRow.laid w) (fun _ _ _ hh h => h.of_heap hh) own started (by kernel_rfl) Tryz.func3
    (ChangeSpec.witness_at (enc := enc) (C := Tryz.checked) (os := os) (X := fun w _ => laidMet Tryz.prog Rows.tierNoneRow.laid w) false (Low.laidWorld os) #[.agg #[.int .i64 0, .int .u64 0, .int .u64 0, .string ⟨#[]⟩, .slice none 0 0]] 8 rfl (by kernel_rfl) (by kernel_rfl) (by kernel_rfl) (by kernel_rfl) (by kernel_rfl) (laid_met os _)) ?_
  intro W base args ds gs before hval0 hW hcnd _ hL _
  have hval : ∀ (j : Nat) t v, Tryz.f3.params[j]? = some t → args[j]? = some v → Value.okWide Tryz.prog W .any base t v := hval0
  have hW' := hW
  obtain ⟨p, q, hA0, hV, rfl, hfz, hnd⟩ := hW
  have hA : DataW.TrodAll enc Tryz.prog W 0 (fun _ => true) true Tryz.f3.params.toList args.toList ds p := hA0
  rw [Tryz.params3] at hA hval
  obtain ⟨v0, vs0, d0, ds0, p0, q0, hargs, rfl, rfl, h0, r0⟩ := trodAll_cons hA
  obtain ⟨rfl, rfl, rfl⟩ := trodAll_nil r0
  obtain rfl : args = #[v0] := by cases args; simp_all
  obtain ⟨rfl, rfl⟩ := trodVars_none hV
  have k0 := h0
  have lt0 : ∀ x ∈ p0, x.block < W.heap.size := by obtain ⟨m, hm⟩ := k0; exact DataW.trod_lt m _ _ _ hm
  obtain ⟨cs0, rfl, hs0⟩ := okWide_struct Tryz.underlying26 (hval 0 26 v0 rfl rfl)
  obtain ⟨fu0_0, x0_0, f0_0⟩ := Ev.field_of Tryz.underlying26 h0 0 rfl
  obtain ⟨a0_0, e0_0, w0_0⟩ := Ev.cell_int (o := 0) (by kernel_rfl : Tryz.prog.underlying 3 = some (.int .i64)) (by kernel_rfl) f0_0
  obtain ⟨fu0_1, x0_1, f0_1⟩ := Ev.field_of Tryz.underlying26 h0 1 rfl
  obtain ⟨a0_1, e0_1, w0_1⟩ := Ev.cell_int (o := 1) (by kernel_rfl : Tryz.prog.underlying 23 = some (.int .u64)) (by kernel_rfl) f0_1
  obtain ⟨fu0_2, x0_2, f0_2⟩ := Ev.field_of Tryz.underlying26 h0 2 rfl
  obtain ⟨a0_2, e0_2, w0_2⟩ := Ev.cell_int (o := 2) (by kernel_rfl : Tryz.prog.underlying 23 = some (.int .u64)) (by kernel_rfl) f0_2
  obtain ⟨fu0_3, x0_3, f0_3⟩ := Ev.field_of Tryz.underlying26 h0 3 rfl
  obtain ⟨a0_3, e0_3, w0_3⟩ := Ev.cell_string (o := 3) (by kernel_rfl : Tryz.prog.underlying 9 = some (.string)) (by kernel_rfl) f0_3
  obtain ⟨fu0_4, x0_4, f0_4⟩ := Ev.field_of Tryz.underlying26 h0 4 rfl
  obtain ⟨a0_4, l0_4, c0_4, e0_4⟩ := Ev.cell_slice (o := 4) (by kernel_rfl : Tryz.prog.underlying 24 = some (.slice 5)) (by kernel_rfl) f0_4
  obtain rfl : cs0 = #[.int .i64 a0_0, .int .u64 a0_1, .int .u64 a0_2, .string a0_3, .slice a0_4 l0_4 c0_4] := Ev.cells_eq [.int .i64 a0_0, .int .u64 a0_1, .int .u64 a0_2, .string a0_3, .slice a0_4 l0_4 c0_4] (hs0.trans (by kernel_rfl)) fun j v hj => match j, hj with
    | 0, hj => by cases hj; exact e0_0
    | 1, hj => by cases hj; exact e0_1
    | 2, hj => by cases hj; exact e0_2
    | 3, hj => by cases hj; exact e0_3
    | 4, hj => by cases hj; exact e0_4
    | j + 5, hj => by cases hj
  clear hA0 hval0
  simp only [List.append_nil] at hW'
  refine (walk a0_0 a0_1 a0_2 a0_3 a0_4 l0_4 c0_4 w0_0 w0_1 w0_2 w0_3 W hL).mono fun e W' ⟨he, bel⟩ => ?_
  subst he
  exact ⟨_, rfl, _, _, _, [], _, [], hW', trodAll_mk1 (shut_bool (by kernel_rfl : Tryz.prog.underlying 4 = some .bool) _), (trodAll_cons_mk (Below.trod laidOut (by kernel_rfl) (of_decide_eq_true (by kernel_rfl)) k0 bel lt0) trodAll_mk0), rfl, bel.frame _, fun h => by cases h⟩
end Go.Proofs.YtcmcmmedcodmpaaGreatDoor.tierNone
