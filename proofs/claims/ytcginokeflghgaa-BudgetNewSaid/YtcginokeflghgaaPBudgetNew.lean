/-
  BudgetNew, for every input: the law returns true, and its arguments read as before. No condition.
-/
import Derived.Test.YtcginokeflghgaaRows
import Derived.Test.YtcginokeflghgaaEvX
import Derived.Test.YtcginokeflghgaaK17known
import Derived.Test.YtcginokeflghgaaCBudgetNew0
import Derived.WalkKit
import Derived.ProofKit
import Derived.OpenShut
import Derived.ShutString
namespace Go.Proofs.Ytcginokeflghgaa.budgetNew
open Go.ChangeShapes Go.WideShapes Go.ChangeAt Go.RowKit
open Go.ChangeMaps (open_string shut_string)
set_option linter.unusedVariables false
set_option linter.unusedSimpArgs false

theorem own : ownKnob Try.prog.godebug = none := by kernel_rfl

theorem walk (a0 : Int) (a1 : Int) (w0 : (Lit.int .i64 a0).wf = true) (w1 : (Lit.int .i64 a1).wf = true) (w : World) :
    Calls Try.prog 3 #[.int .i64 a0, .int .i64 a1] w fun e w' => e = .returned (.bool true) ∧ Below w.heap.size w w' := by
  by_cases c1 : a0 < 1
  · refine Ev.eval_case case0 (by kernel_rfl) (fun i => match i with | 0 => .int .i64 a0 | 1 => .int .i64 a1 | _ => undef) w Ev.gnil (.cons (.opq 0 rfl) (.cons (.opq 1 rfl) (.nil))) ?_
    exact Ev.hcons (Ev.Fact.cmp (.inl ⟨0, rfl, rfl⟩) (.inr rfl) rfl rfl (by simp only [Ev.intOp, Ev.iBlt_eq, Ev.iBeq_eq, Option.some.injEq, Value.bool.injEq, Bool.not_eq_true', Bool.not_eq_false', decide_eq_true_eq, decide_eq_false_iff_not, beq_iff_eq, beq_eq_false_iff_ne, ne_eq] <;> omega)) (Ev.hcons (Ev.Fact.known YtcginokeflghgaaK17known.known (by kernel_rfl)) (Ev.hnil))
  by_cases c2 : a0 > 1048576
  · refine Ev.eval_case case1 (by kernel_rfl) (fun i => match i with | 0 => .int .i64 a0 | 1 => .int .i64 a1 | _ => undef) w Ev.gnil (.cons (.opq 0 rfl) (.cons (.opq 1 rfl) (.nil))) ?_
    exact Ev.hcons (Ev.Fact.cmp (.inl ⟨0, rfl, rfl⟩) (.inr rfl) rfl rfl (by simp only [Ev.intOp, Ev.iBlt_eq, Ev.iBeq_eq, Option.some.injEq, Value.bool.injEq, Bool.not_eq_true', Bool.not_eq_false', decide_eq_true_eq, decide_eq_false_iff_not, beq_iff_eq, beq_eq_false_iff_ne, ne_eq] <;> omega)) (Ev.hcons (Ev.Fact.cmp (.inl ⟨0, rfl, rfl⟩) (.inr rfl) rfl rfl (by simp only [Ev.intOp, Ev.iBlt_eq, Ev.iBeq_eq, Option.some.injEq, Value.bool.injEq, Bool.not_eq_true', Bool.not_eq_false', decide_eq_true_eq, decide_eq_false_iff_not, beq_iff_eq, beq_eq_false_iff_ne, ne_eq] <;> omega)) (Ev.hcons (Ev.Fact.known YtcginokeflghgaaK17known.known (by kernel_rfl)) (Ev.hnil)))
  by_cases c3 : a1 < 1
  · refine Ev.eval_case case2 (by kernel_rfl) (fun i => match i with | 0 => .int .i64 a0 | 1 => .int .i64 a1 | _ => undef) w Ev.gnil (.cons (.opq 0 rfl) (.cons (.opq 1 rfl) (.nil))) ?_
    exact Ev.hcons (Ev.Fact.cmp (.inl ⟨0, rfl, rfl⟩) (.inr rfl) rfl rfl (by simp only [Ev.intOp, Ev.iBlt_eq, Ev.iBeq_eq, Option.some.injEq, Value.bool.injEq, Bool.not_eq_true', Bool.not_eq_false', decide_eq_true_eq, decide_eq_false_iff_not, beq_iff_eq, beq_eq_false_iff_ne, ne_eq] <;> omega)) (Ev.hcons (Ev.Fact.cmp (.inl ⟨0, rfl, rfl⟩) (.inr rfl) rfl rfl (by simp only [Ev.intOp, Ev.iBlt_eq, Ev.iBeq_eq, Option.some.injEq, Value.bool.injEq, Bool.not_eq_true', Bool.not_eq_false', decide_eq_true_eq, decide_eq_false_iff_not, beq_iff_eq, beq_eq_false_iff_ne, ne_eq] <;> omega)) (Ev.hcons (Ev.Fact.cmp (.inl ⟨1, rfl, rfl⟩) (.inr rfl) rfl rfl (by simp only [Ev.intOp, Ev.iBlt_eq, Ev.iBeq_eq, Option.some.injEq, Value.bool.injEq, Bool.not_eq_true', Bool.not_eq_false', decide_eq_true_eq, decide_eq_false_iff_not, beq_iff_eq, beq_eq_false_iff_ne, ne_eq] <;> omega)) (Ev.hcons (Ev.Fact.known YtcginokeflghgaaK17known.known (by kernel_rfl)) (Ev.hnil))))
  by_cases c4 : a1 > 1099511627776
  · refine Ev.eval_case case3 (by kernel_rfl) (fun i => match i with | 0 => .int .i64 a0 | 1 => .int .i64 a1 | _ => undef) w Ev.gnil (.cons (.opq 0 rfl) (.cons (.opq 1 rfl) (.nil))) ?_
    exact Ev.hcons (Ev.Fact.cmp (.inl ⟨0, rfl, rfl⟩) (.inr rfl) rfl rfl (by simp only [Ev.intOp, Ev.iBlt_eq, Ev.iBeq_eq, Option.some.injEq, Value.bool.injEq, Bool.not_eq_true', Bool.not_eq_false', decide_eq_true_eq, decide_eq_false_iff_not, beq_iff_eq, beq_eq_false_iff_ne, ne_eq] <;> omega)) (Ev.hcons (Ev.Fact.cmp (.inl ⟨0, rfl, rfl⟩) (.inr rfl) rfl rfl (by simp only [Ev.intOp, Ev.iBlt_eq, Ev.iBeq_eq, Option.some.injEq, Value.bool.injEq, Bool.not_eq_true', Bool.not_eq_false', decide_eq_true_eq, decide_eq_false_iff_not, beq_iff_eq, beq_eq_false_iff_ne, ne_eq] <;> omega)) (Ev.hcons (Ev.Fact.cmp (.inl ⟨1, rfl, rfl⟩) (.inr rfl) rfl rfl (by simp only [Ev.intOp, Ev.iBlt_eq, Ev.iBeq_eq, Option.some.injEq, Value.bool.injEq, Bool.not_eq_true', Bool.not_eq_false', decide_eq_true_eq, decide_eq_false_iff_not, beq_iff_eq, beq_eq_false_iff_ne, ne_eq] <;> omega)) (Ev.hcons (Ev.Fact.cmp (.inl ⟨1, rfl, rfl⟩) (.inr rfl) rfl rfl (by simp only [Ev.intOp, Ev.iBlt_eq, Ev.iBeq_eq, Option.some.injEq, Value.bool.injEq, Bool.not_eq_true', Bool.not_eq_false', decide_eq_true_eq, decide_eq_false_iff_not, beq_iff_eq, beq_eq_false_iff_ne, ne_eq] <;> omega)) (Ev.hcons (Ev.Fact.known YtcginokeflghgaaK17known.known (by kernel_rfl)) (Ev.hnil)))))
  · refine Ev.eval_case case4 (by kernel_rfl) (fun i => match i with | 0 => .int .i64 a0 | 1 => .int .i64 a1 | 2 => .int .i64 (0 - a0) | 3 => .int .i64 (0 - a1) | _ => undef) w Ev.gnil (.cons (.opq 0 rfl) (.cons (.opq 1 rfl) (.nil))) ?_
    exact Ev.hcons (Ev.Fact.cmp (.inl ⟨0, rfl, rfl⟩) (.inr rfl) rfl rfl (by simp only [Ev.intOp, Ev.iBlt_eq, Ev.iBeq_eq, Option.some.injEq, Value.bool.injEq, Bool.not_eq_true', Bool.not_eq_false', decide_eq_true_eq, decide_eq_false_iff_not, beq_iff_eq, beq_eq_false_iff_ne, ne_eq] <;> omega)) (Ev.hcons (Ev.Fact.cmp (.inl ⟨0, rfl, rfl⟩) (.inr rfl) rfl rfl (by simp only [Ev.intOp, Ev.iBlt_eq, Ev.iBeq_eq, Option.some.injEq, Value.bool.injEq, Bool.not_eq_true', Bool.not_eq_false', decide_eq_true_eq, decide_eq_false_iff_not, beq_iff_eq, beq_eq_false_iff_ne, ne_eq] <;> omega)) (Ev.hcons (Ev.Fact.cmp (.inl ⟨1, rfl, rfl⟩) (.inr rfl) rfl rfl (by simp only [Ev.intOp, Ev.iBlt_eq, Ev.iBeq_eq, Option.some.injEq, Value.bool.injEq, Bool.not_eq_true', Bool.not_eq_false', decide_eq_true_eq, decide_eq_false_iff_not, beq_iff_eq, beq_eq_false_iff_ne, ne_eq] <;> omega)) (Ev.hcons (Ev.Fact.cmp (.inl ⟨1, rfl, rfl⟩) (.inr rfl) rfl rfl (by simp only [Ev.intOp, Ev.iBlt_eq, Ev.iBeq_eq, Option.some.injEq, Value.bool.injEq, Bool.not_eq_true', Bool.not_eq_false', decide_eq_true_eq, decide_eq_false_iff_not, beq_iff_eq, beq_eq_false_iff_ne, ne_eq] <;> omega)) (Ev.hcons (Ev.Fact.seqI (.inl ⟨0, rfl, rfl⟩) (.inr rfl) rfl rfl (by kernel_rfl) (by omega)) (Ev.hcons (Ev.Fact.cmp (.inl ⟨0, rfl, rfl⟩) (.inl ⟨0, rfl, rfl⟩) rfl rfl (by simp only [Ev.intOp, Ev.iBlt_eq, Ev.iBeq_eq, Option.some.injEq, Value.bool.injEq, Bool.not_eq_true', Bool.not_eq_false', decide_eq_true_eq, decide_eq_false_iff_not, beq_iff_eq, beq_eq_false_iff_ne, ne_eq] <;> omega)) (Ev.hcons (Ev.Fact.cmp (.inl ⟨1, rfl, rfl⟩) (.inl ⟨1, rfl, rfl⟩) rfl rfl (by simp only [Ev.intOp, Ev.iBlt_eq, Ev.iBeq_eq, Option.some.injEq, Value.bool.injEq, Bool.not_eq_true', Bool.not_eq_false', decide_eq_true_eq, decide_eq_false_iff_not, beq_iff_eq, beq_eq_false_iff_ne, ne_eq] <;> omega)) (Ev.hcons (Ev.Fact.res (.inr rfl) (.inl ⟨0, rfl, rfl⟩) (.inl ⟨2, rfl, rfl⟩) rfl rfl rfl (Ev.res_sub (IntWalk.i64_in _ (by omega)))) (Ev.hcons (Ev.Fact.mxI (.inr rfl) (.inl ⟨2, rfl, rfl⟩) (.inr rfl) rfl rfl rfl (by simp only [if_true, Bool.false_eq_true, if_false]; first | rw [if_pos (by omega)] | rw [if_neg (by omega)])) (Ev.hcons (Ev.Fact.res (.inr rfl) (.inl ⟨1, rfl, rfl⟩) (.inl ⟨3, rfl, rfl⟩) rfl rfl rfl (Ev.res_sub (IntWalk.i64_in _ (by omega)))) (Ev.hcons (Ev.Fact.mxI (.inr rfl) (.inl ⟨3, rfl, rfl⟩) (.inr rfl) rfl rfl rfl (by simp only [if_true, Bool.false_eq_true, if_false]; first | rw [if_pos (by omega)] | rw [if_neg (by omega)])) (Ev.hcons (Ev.Fact.known YtcginokeflghgaaK17known.known (by kernel_rfl)) (Ev.hnil))))))))))))

set_option maxRecDepth 100000 in
theorem lifted (os : Os) (started : os.Started) (H : Type) (enc : TypeId × Value → H) :
    ReturnsInHanded {} Try.checked os 3 .any (Rows.budgetNewSpec.pre6 enc Try.prog Try.f3 Rows.budgetNewRow.domain false) (Rows.budgetNewSpec.post enc Try.prog Try.f3 false true false false) := by
  refine returnsInHanded_of_change (C := Try.checked) own started (by kernel_rfl) Try.func3
    (ChangeSpec.witness6 (enc := enc) (C := Try.checked) false ⟨#[], #[.int .i64 0, .int .i64 0], []⟩ 8 (by kernel_rfl) (by kernel_rfl) (by kernel_rfl) (by kernel_rfl)) ?_
  intro W base args ds gs before hval0 hW hcnd _
  have hval : ∀ (j : Nat) t v, Try.f3.params[j]? = some t → args[j]? = some v → Value.okWide Try.prog W .any base t v := hval0
  have hW' := hW
  obtain ⟨p, q, hA0, hV, rfl, hfz, hnd⟩ := hW
  have hA : DataW.TrodAll enc Try.prog W 0 (fun _ => true) true Try.f3.params.toList args.toList ds p := hA0
  rw [Try.params3] at hA hval
  obtain ⟨v0, vs0, d0, ds0, p0, q0, hargs, rfl, rfl, h0, r0⟩ := trodAll_cons hA
  obtain ⟨v1, vs1, d1, ds1, p1, q1, rfl, rfl, rfl, h1, r1⟩ := trodAll_cons r0
  obtain ⟨rfl, rfl, rfl⟩ := trodAll_nil r1
  obtain rfl : args = #[v0, v1] := by cases args; simp_all
  obtain ⟨rfl, rfl⟩ := trodVars_none hV
  obtain ⟨a0, rfl, rfl, rfl, w0⟩ := open_int Try.underlying3 (hval 0 3 v0 rfl rfl) h0
  obtain ⟨a1, rfl, rfl, rfl, w1⟩ := open_int Try.underlying3 (hval 1 3 v1 rfl rfl) h1
  clear hA0 hval0
  simp only [List.append_nil] at hW'
  refine (walk a0 a1 w0 w1 W).mono fun e W' ⟨he, bel⟩ => ?_
  subst he
  exact ⟨_, rfl, _, _, _, [], _, [], hW', trodAll_mk1 (shut_bool Try.underlying4 _), (trodAll_cons_mk (shut_int Try.underlying3 w0) (trodAll_cons_mk (shut_int Try.underlying3 w1) trodAll_mk0)), rfl, bel.frame _, fun h => by cases h⟩

theorem over : Rows.budgetNewRow.holds Try.pinned (OpenSpec.ofChange Rows.budgetNewSpec) :=
  OpenClaim.holds_of_wide 3 Try.f3 rfl rfl rfl rfl rfl rfl rfl ⟨rfl, rfl, rfl, rfl, rfl⟩ rfl rfl rfl rfl rfl (by kernel_rfl) Try.func3 (by kernel_rfl)
    (of_decide_eq_true (by kernel_rfl)) (by unfold Func.isWrapper; first | (rw [if_pos (by decide +kernel)]; kernel_rfl) | (rw [if_neg (by decide +kernel)]; exact ⟨rfl, rfl⟩))
    (fun os started H enc _ => lifted os started H enc)

theorem proved : Rows.BudgetNewSaid :=
  over
#print axioms proved
end Go.Proofs.Ytcginokeflghgaa.budgetNew
