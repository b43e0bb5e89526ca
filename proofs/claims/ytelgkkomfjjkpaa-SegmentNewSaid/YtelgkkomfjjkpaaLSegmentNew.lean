/-
  SegmentNew, for every input: the law returns true, and its arguments read as before. No condition.
-/
import Derived.Test.YtelgkkomfjjkpaaRows
import Derived.Test.YtelgkkomfjjkpaaEvW
import Derived.Test.YtelgkkomfjjkpaaCSegmentNew0
import Derived.Test.YtelgkkomfjjkpaaCSegmentNew1
import Derived.Test.YtelgkkomfjjkpaaCSegmentNew2
import Derived.WalkKit
import Derived.ProofKit
import Derived.OpenShut
import Derived.ShutString
namespace Go.Proofs.Ytelgkkomfjjkpaa.segmentNew
open Go.ChangeShapes Go.WideShapes Go.ChangeAt Go.RowKit
open Go.ChangeMaps (open_string shut_string)
set_option linter.unusedVariables false
set_option linter.unusedSimpArgs false

theorem own : ownKnob Try.prog.godebug = none := by kernel_rfl

theorem walk (a0 : Int) (w0 : (Lit.int .i64 a0).wf = true) (w : World) :
    Calls Try.prog 4 #[.int .i64 a0] w fun e w' => e = .returned (.bool true) ∧ Below w.heap.size w w' := by
  by_cases c1 : a0 < -1
  · refine Ev.eval_case case0 (by kernel_rfl) (fun i => match i with | _ => .int .i64 a0) w (.cons (.opq 0 rfl) (.nil)) ?_
    exact Ev.hcons (Ev.Fact.cmpC rfl (by simp only [Ev.intOp, Ev.iBlt_eq, Ev.iBeq_eq, Option.some.injEq, Value.bool.injEq, Bool.not_eq_true', Bool.not_eq_false', decide_eq_true_eq, decide_eq_false_iff_not, beq_iff_eq, beq_eq_false_iff_ne] <;> omega)) (Ev.hnil)
  by_cases c2 : a0 > 1099511627776
  · refine Ev.eval_case case1 (by kernel_rfl) (fun i => match i with | _ => .int .i64 a0) w (.cons (.opq 0 rfl) (.nil)) ?_
    exact Ev.hcons (Ev.Fact.cmpC rfl (by simp only [Ev.intOp, Ev.iBlt_eq, Ev.iBeq_eq, Option.some.injEq, Value.bool.injEq, Bool.not_eq_true', Bool.not_eq_false', decide_eq_true_eq, decide_eq_false_iff_not, beq_iff_eq, beq_eq_false_iff_ne] <;> omega)) (Ev.hcons (Ev.Fact.cmpC rfl (by simp only [Ev.intOp, Ev.iBlt_eq, Ev.iBeq_eq, Option.some.injEq, Value.bool.injEq, Bool.not_eq_true', Bool.not_eq_false', decide_eq_true_eq, decide_eq_false_iff_not, beq_iff_eq, beq_eq_false_iff_ne] <;> omega)) (Ev.hnil))
  · refine Ev.eval_case case2 (by kernel_rfl) (fun i => match i with | _ => .int .i64 a0) w (.cons (.opq 0 rfl) (.nil)) ?_
    exact Ev.hcons (Ev.Fact.cmpC rfl (by simp only [Ev.intOp, Ev.iBlt_eq, Ev.iBeq_eq, Option.some.injEq, Value.bool.injEq, Bool.not_eq_true', Bool.not_eq_false', decide_eq_true_eq, decide_eq_false_iff_not, beq_iff_eq, beq_eq_false_iff_ne] <;> omega)) (Ev.hcons (Ev.Fact.cmpC rfl (by simp only [Ev.intOp, Ev.iBlt_eq, Ev.iBeq_eq, Option.some.injEq, Value.bool.injEq, Bool.not_eq_true', Bool.not_eq_false', decide_eq_true_eq, decide_eq_false_iff_not, beq_iff_eq, beq_eq_false_iff_ne] <;> omega)) (Ev.hnil))

set_option maxRecDepth 100000 in
theorem lifted (os : Os) (started : os.Started) (H : Type) (enc : TypeId × Value → H) :
    ReturnsInHanded {} Try.checked os 4 .any (Rows.segmentNewSpec.pre6 enc Try.prog Try.f4 Rows.segmentNewRow.domain false) (Rows.segmentNewSpec.post enc Try.prog Try.f4 false true false false) := by
  refine returnsInHanded_of_change (C := Try.checked) own started (by kernel_rfl) Try.func4
    (ChangeSpec.witness6 (enc := enc) (C := Try.checked) false ⟨#[], #[.int .i64 0], []⟩ 8 (by kernel_rfl) (by kernel_rfl) (by kernel_rfl) (by kernel_rfl)) ?_
  intro W base args ds gs before hval0 hW hcnd _
  have hval : ∀ (j : Nat) t v, Try.f4.params[j]? = some t → args[j]? = some v → Value.okWide Try.prog W .any base t v := hval0
  have hW' := hW
  obtain ⟨p, q, hA0, hV, rfl, hfz, hnd⟩ := hW
  have hA : DataW.TrodAll enc Try.prog W 0 (fun _ => true) true Try.f4.params.toList args.toList ds p := hA0
  rw [Try.params4] at hA hval
  obtain ⟨v0, vs0, d0, ds0, p0, q0, hargs, rfl, rfl, h0, r0⟩ := trodAll_cons hA
  obtain ⟨rfl, rfl, rfl⟩ := trodAll_nil r0
  obtain rfl : args = #[v0] := by cases args; simp_all
  obtain ⟨rfl, rfl⟩ := trodVars_none hV
  obtain ⟨a0, rfl, rfl, rfl, w0⟩ := open_int Try.underlying3 (hval 0 3 v0 rfl rfl) h0
  clear hA0 hval0
  simp only [List.append_nil] at hW'
  refine (walk a0 w0 W).mono fun e W' ⟨he, bel⟩ => ?_
  subst he
  exact ⟨_, rfl, _, _, _, [], _, [], hW', trodAll_mk1 (shut_bool Try.underlying4 _), (trodAll_cons_mk (shut_int Try.underlying3 w0) trodAll_mk0), rfl, bel.frame _, fun h => by cases h⟩
end Go.Proofs.Ytelgkkomfjjkpaa.segmentNew
