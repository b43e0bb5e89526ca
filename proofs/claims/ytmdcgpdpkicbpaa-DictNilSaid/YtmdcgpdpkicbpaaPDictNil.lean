/-
  DictNil, for every input: the law returns true, and its arguments read as before. No condition.
-/
import Derived.Test.YtmdcgpdpkicbpaaRows
import Derived.Test.YtmdcgpdpkicbpaaEvX
import Derived.Test.YtmdcgpdpkicbpaaK10known
import Derived.Test.YtmdcgpdpkicbpaaCDictNil0
import Derived.Test.YtmdcgpdpkicbpaaArg
import Derived.WalkKit
import Derived.ProofKit
import Derived.OpenShut
import Derived.ShutString
import Derived.ChangeOld
import Derived.Below
import Derived.Carry
import Derived.WideShapes
namespace Go.Proofs.Ytmdcgpdpkicbpaa.dictNil
open Go.ChangeShapes Go.WideShapes Go.ChangeAt Go.RowKit
open Go.ChangeMaps (open_string shut_string)
set_option linter.unusedVariables false
set_option linter.unusedSimpArgs false

theorem own : ownKnob Try.prog.godebug = none := by kernel_rfl
theorem laidOut : laidOutB Try.prog = true := by kernel_rfl

theorem walk (a0 : Int) (a1_0 : ByteArray) (a1_1 : Option Addr) (l1_1 c1_1 : Nat) (a1_2 : Int) (a1_3 : Int) (w0 : (Lit.int .u32 a0).wf = true) (w1_0 : a1_0.size ≤ maxLen) (w1_2 : (Lit.int .u64 a1_2).wf = true) (w1_3 : (Lit.int .u64 a1_3).wf = true) (w : World) :
    Calls Try.prog 5 #[.int .u32 a0, .agg #[.string a1_0, .slice a1_1 l1_1 c1_1, .int .u64 a1_2, .int .u64 a1_3]] w fun e w' => e = .returned (.bool true) ∧ Below w.heap.size w w' := by
  by_cases c0 : 300 < a1_0.size
  · refine Ev.eval_case case0 (by kernel_rfl) (fun i => match i with | 0 => .int .u32 a0 | 1 => .string a1_0 | 2 => .slice a1_1 l1_1 c1_1 | 3 => .int .u64 a1_2 | 4 => .int .u64 a1_3 | 5 => .int .i64 (a1_0.size : Int) | _ => undef) w Ev.gnil (.cons (.opq 0 rfl) (.cons (.agg (.cons (.opq 1 rfl) (.cons (.opq 2 rfl) (.cons (.opq 3 rfl) (.cons (.opq 4 rfl) (.nil)))))) (.nil))) ?_
    exact Ev.hcons (Ev.Fact.lenS rfl rfl (by kernel_rfl)) (Ev.hcons (Ev.Fact.cmp (.inl ⟨5, rfl, rfl⟩) (.inr rfl) rfl rfl (by simp only [Ev.intOp, Ev.iBlt_eq, Ev.iBeq_eq, Option.some.injEq, Value.bool.injEq, Bool.not_eq_true', Bool.not_eq_false', decide_eq_true_eq, decide_eq_false_iff_not, beq_iff_eq, beq_eq_false_iff_ne, ne_eq] <;> omega)) (Ev.hcons (Ev.Fact.known YtmdcgpdpkicbpaaK10known.known (by kernel_rfl)) (Ev.hnil)))
  by_cases c1 : 300 < l1_1
  · refine Ev.eval_case case1 (by kernel_rfl) (fun i => match i with | 0 => .int .u32 a0 | 1 => .string a1_0 | 2 => .slice a1_1 l1_1 c1_1 | 3 => .int .u64 a1_2 | 4 => .int .u64 a1_3 | 5 => .int .i64 (a1_0.size : Int) | 6 => .int .i64 (l1_1 : Int) | _ => undef) w Ev.gnil (.cons (.opq 0 rfl) (.cons (.agg (.cons (.opq 1 rfl) (.cons (.opq 2 rfl) (.cons (.opq 3 rfl) (.cons (.opq 4 rfl) (.nil)))))) (.nil))) ?_
    exact Ev.hcons (Ev.Fact.lenS rfl rfl (by kernel_rfl)) (Ev.hcons (Ev.Fact.cmp (.inl ⟨5, rfl, rfl⟩) (.inr rfl) rfl rfl (by simp only [Ev.intOp, Ev.iBlt_eq, Ev.iBeq_eq, Option.some.injEq, Value.bool.injEq, Bool.not_eq_true', Bool.not_eq_false', decide_eq_true_eq, decide_eq_false_iff_not, beq_iff_eq, beq_eq_false_iff_ne, ne_eq] <;> omega)) (Ev.hcons (Ev.Fact.lenL rfl rfl (by kernel_rfl)) (Ev.hcons (Ev.Fact.cmp (.inl ⟨6, rfl, rfl⟩) (.inr rfl) rfl rfl (by simp only [Ev.intOp, Ev.iBlt_eq, Ev.iBeq_eq, Option.some.injEq, Value.bool.injEq, Bool.not_eq_true', Bool.not_eq_false', decide_eq_true_eq, decide_eq_false_iff_not, beq_iff_eq, beq_eq_false_iff_ne, ne_eq] <;> omega)) (Ev.hcons (Ev.Fact.known YtmdcgpdpkicbpaaK10known.known (by kernel_rfl)) (Ev.hnil)))))
  refine Ev.eval_case case2 (by kernel_rfl) (fun i => match i with | 0 => .int .u32 a0 | 1 => .string a1_0 | 2 => .slice a1_1 l1_1 c1_1 | 3 => .int .u64 a1_2 | 4 => .int .u64 a1_3 | 5 => .int .i64 (a1_0.size : Int) | 6 => .int .i64 (l1_1 : Int) | _ => undef) w Ev.gnil (.cons (.opq 0 rfl) (.cons (.agg (.cons (.opq 1 rfl) (.cons (.opq 2 rfl) (.cons (.opq 3 rfl) (.cons (.opq 4 rfl) (.nil)))))) (.nil))) ?_
  exact Ev.hcons (Ev.Fact.lenS rfl rfl (by kernel_rfl)) (Ev.hcons (Ev.Fact.cmp (.inl ⟨5, rfl, rfl⟩) (.inr rfl) rfl rfl (by simp only [Ev.intOp, Ev.iBlt_eq, Ev.iBeq_eq, Option.some.injEq, Value.bool.injEq, Bool.not_eq_true', Bool.not_eq_false', decide_eq_true_eq, decide_eq_false_iff_not, beq_iff_eq, beq_eq_false_iff_ne, ne_eq] <;> omega)) (Ev.hcons (Ev.Fact.lenL rfl rfl (by kernel_rfl)) (Ev.hcons (Ev.Fact.cmp (.inl ⟨6, rfl, rfl⟩) (.inr rfl) rfl rfl (by simp only [Ev.intOp, Ev.iBlt_eq, Ev.iBeq_eq, Option.some.injEq, Value.bool.injEq, Bool.not_eq_true', Bool.not_eq_false', decide_eq_true_eq, decide_eq_false_iff_not, beq_iff_eq, beq_eq_false_iff_ne, ne_eq] <;> omega)) (Ev.hcons (Ev.Fact.known YtmdcgpdpkicbpaaK10known.known (by kernel_rfl)) (Ev.hnil)))))

set_option maxRecDepth 100000 in
theorem lifted (os : Os) (started : os.Started) (H : Type) (enc : TypeId × Value → H) :
    ReturnsInHanded {} Try.checked os 5 .any (Rows.dictNilSpec.pre6 enc Try.prog Try.f5 Rows.dictNilRow.domain false) (Rows.dictNilSpec.post enc Try.prog Try.f5 false true false false) := by
  refine returnsInHanded_of_change (C := Try.checked) own started (by kernel_rfl) Try.func5
    (ChangeSpec.witness6 (enc := enc) (C := Try.checked) false ⟨#[], #[.int .u32 0, .agg #[.string ⟨#[]⟩, .slice none 0 0, .int .u64 0, .int .u64 0]], []⟩ 8 (by kernel_rfl) (by kernel_rfl) (by kernel_rfl) (by kernel_rfl)) ?_
  intro W base args ds gs before hval0 hW hcnd _
  have hval : ∀ (j : Nat) t v, Try.f5.params[j]? = some t → args[j]? = some v → Value.okWide Try.prog W .any base t v := hval0
  have hW' := hW
  obtain ⟨p, q, hA0, hV, rfl, hfz, hnd⟩ := hW
  have hA : DataW.TrodAll enc Try.prog W 0 (fun _ => true) true Try.f5.params.toList args.toList ds p := hA0
  rw [Try.params5] at hA hval
  obtain ⟨v0, vs0, d0, ds0, p0, q0, hargs, rfl, rfl, h0, r0⟩ := trodAll_cons hA
  obtain ⟨v1, vs1, d1, ds1, p1, q1, rfl, rfl, rfl, h1, r1⟩ := trodAll_cons r0
  obtain ⟨rfl, rfl, rfl⟩ := trodAll_nil r1
  obtain rfl : args = #[v0, v1] := by cases args; simp_all
  obtain ⟨rfl, rfl⟩ := trodVars_none hV
  obtain ⟨a0, rfl, rfl, rfl, w0⟩ := open_int (by kernel_rfl : Try.prog.underlying 23 = some (.int .u32)) (hval 0 23 v0 rfl rfl) h0
  have k1 := h1
  have lt1 : ∀ x ∈ p1, x.block < W.heap.size := by obtain ⟨m, hm⟩ := k1; exact DataW.trod_lt m _ _ _ hm
  obtain ⟨cs1, rfl, hs1⟩ := okWide_struct Try.underlying47 (hval 1 47 v1 rfl rfl)
  obtain ⟨fu1_0, x1_0, f1_0⟩ := Ev.field_of Try.underlying47 h1 0 rfl
  obtain ⟨a1_0, e1_0, w1_0⟩ := Ev.cell_string (o := 0) (by kernel_rfl : Try.prog.underlying 9 = some (.string)) (by kernel_rfl) f1_0
  obtain ⟨fu1_1, x1_1, f1_1⟩ := Ev.field_of Try.underlying47 h1 1 rfl
  obtain ⟨a1_1, l1_1, c1_1, e1_1⟩ := Ev.cell_slice (o := 1) (by kernel_rfl : Try.prog.underlying 34 = some (.slice 5)) (by kernel_rfl) f1_1
  obtain ⟨fu1_2, x1_2, f1_2⟩ := Ev.field_of Try.underlying47 h1 2 rfl
  obtain ⟨a1_2, e1_2, w1_2⟩ := Ev.cell_int (o := 2) (by kernel_rfl : Try.prog.underlying 45 = some (.int .u64)) (by kernel_rfl) f1_2
  obtain ⟨fu1_3, x1_3, f1_3⟩ := Ev.field_of Try.underlying47 h1 3 rfl
  obtain ⟨a1_3, e1_3, w1_3⟩ := Ev.cell_int (o := 3) (by kernel_rfl : Try.prog.underlying 22 = some (.int .u64)) (by kernel_rfl) f1_3
  obtain rfl : cs1 = #[.string a1_0, .slice a1_1 l1_1 c1_1, .int .u64 a1_2, .int .u64 a1_3] := Ev.cells_eq [.string a1_0, .slice a1_1 l1_1 c1_1, .int .u64 a1_2, .int .u64 a1_3] (hs1.trans (by kernel_rfl)) fun j v hj => match j, hj with
    | 0, hj => by cases hj; exact e1_0
    | 1, hj => by cases hj; exact e1_1
    | 2, hj => by cases hj; exact e1_2
    | 3, hj => by cases hj; exact e1_3
    | j + 4, hj => by cases hj
  clear hA0 hval0
  simp only [List.append_nil] at hW'
  refine (walk a0 a1_0 a1_1 l1_1 c1_1 a1_2 a1_3 w0 w1_0 w1_2 w1_3 W).mono fun e W' ⟨he, bel⟩ => ?_
  subst he
  exact ⟨_, rfl, _, _, _, [], _, [], hW', trodAll_mk1 (shut_bool (by kernel_rfl : Try.prog.underlying 4 = some .bool) _), (trodAll_cons_mk (shut_int (by kernel_rfl : Try.prog.underlying 23 = some (.int .u32)) w0) (trodAll_cons_mk (Below.trod laidOut (by kernel_rfl) (of_decide_eq_true (by kernel_rfl)) k1 bel lt1) trodAll_mk0)), rfl, bel.frame _, fun h => by cases h⟩

theorem over : Rows.dictNilRow.holds Try.pinned (OpenSpec.ofChange Rows.dictNilSpec) :=
  OpenClaim.holds_of_wide 5 Try.f5 rfl rfl rfl rfl rfl rfl rfl ⟨rfl, rfl, rfl, rfl, rfl⟩ rfl rfl rfl rfl rfl (by kernel_rfl) Try.func5 (by kernel_rfl)
    (of_decide_eq_true (by kernel_rfl)) (by unfold Func.isWrapper; first | (rw [if_pos (by decide +kernel)]; kernel_rfl) | (rw [if_neg (by decide +kernel)]; exact ⟨rfl, rfl⟩))
    (fun os started H enc _ => lifted os started H enc)

theorem proved : Rows.DictNilSaid :=
  over
#print axioms proved
end Go.Proofs.Ytmdcgpdpkicbpaa.dictNil
