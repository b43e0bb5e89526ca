/-
  SketchNone, for every input: the law returns true, and its arguments read as before. No condition.
-/
import Derived.Test.YtkmmcnhnmiajbaaRows
import Derived.Test.YtkmmcnhnmiajbaaEvW
import Derived.WalkKit
import Derived.ProofKit
import Derived.OpenShut
import Derived.ShutString
namespace Go.Proofs.Ytkmmcnhnmiajbaa.sketchNone
open Go.ChangeShapes Go.WideShapes Go.ChangeAt Go.RowKit
open Go.ChangeMaps (open_string shut_string)
set_option linter.unusedVariables false
set_option linter.unusedSimpArgs false

theorem own : ownKnob Try.prog.godebug = none := by kernel_rfl

/-- the cases, evaluated -/
theorem case0 : Ev.evalsTo [.len 9 (.chan (some 0)) (.chan (some 2)), .bin .gtr (.chan (some 2)) (.int .i64 300) (.bool true)] Try.prog 1000 60 12 [.chan (some 0), .chan (some 1)] (.bool true) = true := by kernel_rfl
theorem case1 : Ev.evalsTo [.len 9 (.chan (some 0)) (.chan (some 2)), .bin .gtr (.chan (some 2)) (.int .i64 300) (.bool false), .bin .lss (.chan (some 1)) (.int .i64 0) (.bool true), .bin .geq (.chan (some 1)) (.int .i64 0) (.bool false)] Try.prog 1000 60 12 [.chan (some 0), .chan (some 1)] (.bool true) = true := by kernel_rfl
theorem case2 : Ev.evalsTo [.len 9 (.chan (some 0)) (.chan (some 2)), .bin .gtr (.chan (some 2)) (.int .i64 300) (.bool false), .bin .lss (.chan (some 1)) (.int .i64 0) (.bool false), .bin .geq (.chan (some 1)) (.int .i64 4) (.bool true), .bin .geq (.chan (some 1)) (.int .i64 0) (.bool true), .bin .lss (.chan (some 1)) (.int .i64 4) (.bool false)] Try.prog 1000 60 12 [.chan (some 0), .chan (some 1)] (.bool true) = true := by kernel_rfl
theorem case3 : Ev.evalsTo [.len 9 (.chan (some 0)) (.chan (some 1)), .bin .gtr (.chan (some 1)) (.int .i64 300) (.bool false)] Try.prog 1000 60 12 [.chan (some 0), .int .i64 0] (.bool true) = true := by kernel_rfl
theorem case4 : Ev.evalsTo [.len 9 (.chan (some 0)) (.chan (some 1)), .bin .gtr (.chan (some 1)) (.int .i64 300) (.bool false)] Try.prog 1000 60 12 [.chan (some 0), .int .i64 1] (.bool true) = true := by kernel_rfl
theorem case5 : Ev.evalsTo [.len 9 (.chan (some 0)) (.chan (some 1)), .bin .gtr (.chan (some 1)) (.int .i64 300) (.bool false)] Try.prog 1000 60 12 [.chan (some 0), .int .i64 2] (.bool true) = true := by kernel_rfl
theorem case6 : Ev.evalsTo [.len 9 (.chan (some 0)) (.chan (some 1)), .bin .gtr (.chan (some 1)) (.int .i64 300) (.bool false)] Try.prog 1000 60 12 [.chan (some 0), .int .i64 3] (.bool true) = true := by kernel_rfl

theorem walk (a0 : ByteArray) (a1 : Int) (w0 : a0.size ≤ maxLen) (w1 : (Lit.int .i64 a1).wf = true) (w : World) :
    Calls Try.prog 12 #[.string a0, .int .i64 a1] w fun e w' => e = .returned (.bool true) ∧ Below w.heap.size w w' := by
  by_cases h : (300 : Int) < (a0.size : Int)
  · refine Ev.eval_case case0 (by kernel_rfl) (fun i => match i with | 0 => .string a0 | 1 => .int .i64 a1 | _ => .int .i64 (a0.size : Int)) w (.cons (.opq 0 rfl) (.cons (.opq 1 rfl) (.nil))) ?_
    exact Ev.hcons (Ev.Fact.lenS rfl rfl (by kernel_rfl)) (Ev.hcons (Ev.Fact.cmpC rfl (by simp only [Ev.intOp, Ev.iBlt_eq, Ev.iBeq_eq, Option.some.injEq, Value.bool.injEq, Bool.not_eq_true', Bool.not_eq_false', decide_eq_true_eq, decide_eq_false_iff_not, beq_iff_eq, beq_eq_false_iff_ne]; omega)) (Ev.hnil))
  by_cases h0 : a1 < 0
  · refine Ev.eval_case case1 (by kernel_rfl) (fun i => match i with | 0 => .string a0 | 1 => .int .i64 a1 | _ => .int .i64 (a0.size : Int)) w (.cons (.opq 0 rfl) (.cons (.opq 1 rfl) (.nil))) ?_
    exact Ev.hcons (Ev.Fact.lenS rfl rfl (by kernel_rfl)) (Ev.hcons (Ev.Fact.cmpC rfl (by simp only [Ev.intOp, Ev.iBlt_eq, Ev.iBeq_eq, Option.some.injEq, Value.bool.injEq, Bool.not_eq_true', Bool.not_eq_false', decide_eq_true_eq, decide_eq_false_iff_not, beq_iff_eq, beq_eq_false_iff_ne]; omega)) (Ev.hcons (Ev.Fact.cmpC rfl (by simp only [Ev.intOp, Ev.iBlt_eq, Ev.iBeq_eq, Option.some.injEq, Value.bool.injEq, Bool.not_eq_true', Bool.not_eq_false', decide_eq_true_eq, decide_eq_false_iff_not, beq_iff_eq, beq_eq_false_iff_ne]; omega)) (Ev.hcons (Ev.Fact.cmpC rfl (by simp only [Ev.intOp, Ev.iBlt_eq, Ev.iBeq_eq, Option.some.injEq, Value.bool.injEq, Bool.not_eq_true', Bool.not_eq_false', decide_eq_true_eq, decide_eq_false_iff_not, beq_iff_eq, beq_eq_false_iff_ne]; omega)) (Ev.hnil))))
  by_cases h4 : 4 ≤ a1
  · refine Ev.eval_case case2 (by kernel_rfl) (fun i => match i with | 0 => .string a0 | 1 => .int .i64 a1 | _ => .int .i64 (a0.size : Int)) w (.cons (.opq 0 rfl) (.cons (.opq 1 rfl) (.nil))) ?_
    exact Ev.hcons (Ev.Fact.lenS rfl rfl (by kernel_rfl)) (Ev.hcons (Ev.Fact.cmpC rfl (by simp only [Ev.intOp, Ev.iBlt_eq, Ev.iBeq_eq, Option.some.injEq, Value.bool.injEq, Bool.not_eq_true', Bool.not_eq_false', decide_eq_true_eq, decide_eq_false_iff_not, beq_iff_eq, beq_eq_false_iff_ne]; omega)) (Ev.hcons (Ev.Fact.cmpC rfl (by simp only [Ev.intOp, Ev.iBlt_eq, Ev.iBeq_eq, Option.some.injEq, Value.bool.injEq, Bool.not_eq_true', Bool.not_eq_false', decide_eq_true_eq, decide_eq_false_iff_not, beq_iff_eq, beq_eq_false_iff_ne]; omega)) (Ev.hcons (Ev.Fact.cmpC rfl (by simp only [Ev.intOp, Ev.iBlt_eq, Ev.iBeq_eq, Option.some.injEq, Value.bool.injEq, Bool.not_eq_true', Bool.not_eq_false', decide_eq_true_eq, decide_eq_false_iff_not, beq_iff_eq, beq_eq_false_iff_ne]; omega)) (Ev.hcons (Ev.Fact.cmpC rfl (by simp only [Ev.intOp, Ev.iBlt_eq, Ev.iBeq_eq, Option.some.injEq, Value.bool.injEq, Bool.not_eq_true', Bool.not_eq_false', decide_eq_true_eq, decide_eq_false_iff_not, beq_iff_eq, beq_eq_false_iff_ne]; omega)) (Ev.hcons (Ev.Fact.cmpC rfl (by simp only [Ev.intOp, Ev.iBlt_eq, Ev.iBeq_eq, Option.some.injEq, Value.bool.injEq, Bool.not_eq_true', Bool.not_eq_false', decide_eq_true_eq, decide_eq_false_iff_not, beq_iff_eq, beq_eq_false_iff_ne]; omega)) (Ev.hnil))))))
  have h5 : a1 = 0 ∨ a1 = 1 ∨ a1 = 2 ∨ a1 = 3 := by omega
  rcases h5 with rfl | rfl | rfl | rfl
  · refine Ev.eval_case case3 (by kernel_rfl) (fun i => match i with | 0 => .string a0 | _ => .int .i64 (a0.size : Int)) w (.cons (.opq 0 rfl) (.cons (.int _ _) (.nil))) ?_
    exact Ev.hcons (Ev.Fact.lenS rfl rfl (by kernel_rfl)) (Ev.hcons (Ev.Fact.cmpC rfl (by simp only [Ev.intOp, Ev.iBlt_eq, Ev.iBeq_eq, Option.some.injEq, Value.bool.injEq, Bool.not_eq_true', Bool.not_eq_false', decide_eq_true_eq, decide_eq_false_iff_not, beq_iff_eq, beq_eq_false_iff_ne]; omega)) (Ev.hnil))
  · refine Ev.eval_case case4 (by kernel_rfl) (fun i => match i with | 0 => .string a0 | _ => .int .i64 (a0.size : Int)) w (.cons (.opq 0 rfl) (.cons (.int _ _) (.nil))) ?_
    exact Ev.hcons (Ev.Fact.lenS rfl rfl (by kernel_rfl)) (Ev.hcons (Ev.Fact.cmpC rfl (by simp only [Ev.intOp, Ev.iBlt_eq, Ev.iBeq_eq, Option.some.injEq, Value.bool.injEq, Bool.not_eq_true', Bool.not_eq_false', decide_eq_true_eq, decide_eq_false_iff_not, beq_iff_eq, beq_eq_false_iff_ne]; omega)) (Ev.hnil))
  · refine Ev.eval_case case5 (by kernel_rfl) (fun i => match i with | 0 => .string a0 | _ => .int .i64 (a0.size : Int)) w (.cons (.opq 0 rfl) (.cons (.int _ _) (.nil))) ?_
    exact Ev.hcons (Ev.Fact.lenS rfl rfl (by kernel_rfl)) (Ev.hcons (Ev.Fact.cmpC rfl (by simp only [Ev.intOp, Ev.iBlt_eq, Ev.iBeq_eq, Option.some.injEq, Value.bool.injEq, Bool.not_eq_true', Bool.not_eq_false', decide_eq_true_eq, decide_eq_false_iff_not, beq_iff_eq, beq_eq_false_iff_ne]; omega)) (Ev.hnil))
  · refine Ev.eval_case case6 (by kernel_rfl) (fun i => match i with | 0 => .string a0 | _ => .int .i64 (a0.size : Int)) w (.cons (.opq 0 rfl) (.cons (.int _ _) (.nil))) ?_
    exact Ev.hcons (Ev.Fact.lenS rfl rfl (by kernel_rfl)) (Ev.hcons (Ev.Fact.cmpC rfl (by simp only [Ev.intOp, Ev.iBlt_eq, Ev.iBeq_eq, Option.some.injEq, Value.bool.injEq, Bool.not_eq_true', Bool.not_eq_false', decide_eq_true_eq, decide_eq_false_iff_not, beq_iff_eq, beq_eq_false_iff_ne]; omega)) (Ev.hnil))

set_option maxRecDepth 100000 in
theorem lifted (os : Os) (started : os.Started) (H : Type) (enc : TypeId × Value → H) :
    ReturnsInHanded {} Try.checked os 12 .any (Rows.sketchNoneSpec.pre6 enc Try.prog Try.f12 Rows.sketchNoneRow.domain false) (Rows.sketchNoneSpec.post enc Try.prog Try.f12 false true false false) := by
  refine returnsInHanded_of_change (C := Try.checked) own started (by kernel_rfl) Try.func12
    (ChangeSpec.witness6 (enc := enc) (C := Try.checked) false ⟨#[], #[.string ByteArray.empty, .int .i64 0], []⟩ 8 (by kernel_rfl) (by kernel_rfl) (by kernel_rfl) (by kernel_rfl)) ?_
  intro W base args ds gs before hval0 hW hcnd _
  have hval : ∀ (j : Nat) t v, Try.f12.params[j]? = some t → args[j]? = some v → Value.okWide Try.prog W .any base t v := hval0
  have hW' := hW
  obtain ⟨p, q, hA0, hV, rfl, hfz, hnd⟩ := hW
  have hA : DataW.TrodAll enc Try.prog W 0 (fun _ => true) true Try.f12.params.toList args.toList ds p := hA0
  rw [Try.params12] at hA hval
  obtain ⟨v0, vs0, d0, ds0, p0, q0, hargs, rfl, rfl, h0, r0⟩ := trodAll_cons hA
  obtain ⟨v1, vs1, d1, ds1, p1, q1, rfl, rfl, rfl, h1, r1⟩ := trodAll_cons r0
  obtain ⟨rfl, rfl, rfl⟩ := trodAll_nil r1
  obtain rfl : args = #[v0, v1] := by cases args; simp_all
  obtain ⟨rfl, rfl⟩ := trodVars_none hV
  obtain ⟨a0, rfl, rfl, rfl, w0⟩ := open_string Try.underlying9 (hval 0 9 v0 rfl rfl) h0
  obtain ⟨a1, rfl, rfl, rfl, w1⟩ := open_int Try.underlying3 (hval 1 3 v1 rfl rfl) h1
  clear hA0 hval0
  simp only [List.append_nil] at hW'
  refine (walk a0 a1 w0 w1 W).mono fun e W' ⟨he, bel⟩ => ?_
  subst he
  exact ⟨_, rfl, _, _, _, [], _, [], hW', trodAll_mk1 (shut_bool Try.underlying4 _), (trodAll_cons_mk (shut_string Try.underlying9 w0) (trodAll_cons_mk (shut_int Try.underlying3 w1) trodAll_mk0)), rfl, bel.frame _, fun h => by cases h⟩

theorem over : Rows.sketchNoneRow.holds Try.pinned (OpenSpec.ofChange Rows.sketchNoneSpec) :=
  OpenClaim.holds_of_wide 12 Try.f12 rfl rfl rfl rfl rfl rfl rfl ⟨rfl, rfl, rfl, rfl, rfl⟩ rfl rfl rfl rfl rfl (by kernel_rfl) Try.func12 (by kernel_rfl)
    (of_decide_eq_true (by kernel_rfl)) (by unfold Func.isWrapper; first | (rw [if_pos (by decide +kernel)]; kernel_rfl) | (rw [if_neg (by decide +kernel)]; exact ⟨rfl, rfl⟩))
    (fun os started H enc _ => lifted os started H enc)

theorem proved : Rows.SketchNoneSaid :=
  over
#print axioms proved
end Go.Proofs.Ytkmmcnhnmiajbaa.sketchNone
