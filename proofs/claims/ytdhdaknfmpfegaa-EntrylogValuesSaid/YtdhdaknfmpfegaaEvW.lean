/-
  A checked evaluator, part W: what a law's proof needs of facts.
-/
import Derived.Test.YtdhdaknfmpfegaaEvV
set_option linter.unusedVariables false
set_option linter.unusedSimpArgs false
namespace Go.Proofs.Ytdhdaknfmpfegaa.Ev
open Go Go.RowKit
section
variable {P : Program} {σ : Nat → Value}
/-- a function evaluates to a value under facts, beside rows that were there before -/
noncomputable def evalsTo (T : List Fact) (G : List (Nat × List Value)) (P : Program) (L n : Nat) (f : FuncId) (args : List Value) (v : Value) : Bool :=
  match @evalE ⟨T, G⟩ P L n (.fn f) args .leaf 0 with | some (x, _, _) => veq x v && clean x | none => false
theorem eval_case {T : List Fact} {G : List (Nat × List Value)} {L n : Nat} {f : FuncId} {args : List Value} {v : Value} (h : evalsTo T G P L n f args v = true) (hm : P.follows .mixedOrders = true) (σ : Nat → Value) (w : World) (hG : ∀ x ∈ G, GR σ x w) {vs : List Value} (hvs : VRs (fun _ => none) σ args vs) (hT : ∀ f ∈ T, @Fact.Holds ⟨T, G⟩ P σ f) :
    Calls P f vs.toArray w fun e w' => e = .returned v ∧ Below w.heap.size w w' :=
  eval_facts T G hm h σ w hG hvs hT
theorem gnil {σ : Nat → Value} {w : World} : ∀ x ∈ ([] : List (Nat × List Value)), GR σ x w := fun x hx => by cases hx
theorem gcons {σ : Nat → Value} {w : World} {g : Nat × List Value} {l : List (Nat × List Value)} (h : GR σ g w) (k : ∀ x ∈ l, GR σ x w) : ∀ x ∈ g :: l, GR σ x w := fun x hx => by
  rcases List.mem_cons.1 hx with rfl | hx
  · exact h
  · exact k x hx
theorem sub_run {a b : Int} (h : -9223372036854775808 ≤ a - b) (h' : a - b ≤ 9223372036854775807) (t : TypeId) (x z : Operand) (w : World) :
    ((do eqGuard .sub t x z (.int .i64 a) (.int .i64 b); binOp .sub t (.int .i64 a) (.int .i64 b) : Sem Value)).run P w = .ok (.int .i64 (a - b)) w := by
  simp [eqGuard, binOp, Op.intArith, IntWalk.i64_in _ ⟨h, h'⟩]
theorem conv_run {s d : TypeId} {k l : IntKind} {n : Int} (hs : P.underlying s = some (.int k)) (hd : P.underlying d = some (.int l)) (h : l.wrap n = n) (w : World) : (convert s d (.int k n)).run P w = .ok (.int l n) w := by
  simp [convert, run_underlying' hs, run_underlying' hd, Conv.intToInt, h]
theorem wf_i64 {a : Int} (h : (Lit.int .i64 a).wf = true) : -9223372036854775808 ≤ a ∧ a ≤ 9223372036854775807 := by
  have e1 : IntKind.i64.min = -9223372036854775808 := by decide
  have e2 : IntKind.i64.max = 9223372036854775807 := by decide
  rw [Lit.wf, Bool.and_eq_true, decide_eq_true_eq, decide_eq_true_eq, e1, e2] at h
  exact h
theorem wf_u32 {a : Int} (h : (Lit.int .u32 a).wf = true) : 0 ≤ a ∧ a ≤ 4294967295 := by
  have e1 : IntKind.u32.min = 0 := by decide
  have e2 : IntKind.u32.max = 4294967295 := by decide
  rw [Lit.wf, Bool.and_eq_true, decide_eq_true_eq, decide_eq_true_eq, e1, e2] at h
  exact h
theorem wf_u8 {a : Int} (h : (Lit.int .u8 a).wf = true) : 0 ≤ a ∧ a ≤ 255 := by
  have e1 : IntKind.u8.min = 0 := by decide
  have e2 : IntKind.u8.max = 255 := by decide
  rw [Lit.wf, Bool.and_eq_true, decide_eq_true_eq, decide_eq_true_eq, e1, e2] at h
  exact h
variable {tabI : Tab}
theorem hnil : ∀ f ∈ ([] : List Fact), f.Holds P σ := fun f hf => by cases hf
theorem hcons {f : Fact} {l : List Fact} (h : f.Holds P σ) (k : ∀ g ∈ l, g.Holds P σ) : ∀ g ∈ f :: l, g.Holds P σ := fun g hg => by
  rcases List.mem_cons.1 hg with rfl | hg
  · exact h
  · exact k g hg
theorem Fact.cmpD {op : BinOp} {j : Nat} {k : IntKind} {a b : Int} {r : Bool} (hj : σ j = .int k b) (h : intOp op k a b = some (.bool r)) : (Fact.bin op (.int k a) (.chan (some j)) (.bool r)).Holds P σ :=
  Fact.num (.inr rfl) (.inl ⟨j, rfl, by rw [hj]; rfl⟩) (.inr rfl) rfl hj h
theorem Fact.subC {i m : Nat} {a b : Int} (hi : σ i = .int .i64 a) (hm : σ m = .int .i64 (a - b)) (h : -9223372036854775808 ≤ a - b) (h' : a - b ≤ 9223372036854775807) : (Fact.bin .sub (.chan (some i)) (.int .i64 b) (.chan (some m))).Holds P σ :=
  ⟨.inl ⟨i, rfl, by rw [hi]; rfl⟩, .inr rfl, .inl ⟨m, rfl, by rw [hm]; rfl⟩, fun t x z w => by simp only [inst, hi, hm]; exact sub_run h h' t x z w⟩
theorem Fact.subO {i j m : Nat} {a b : Int} (hi : σ i = .int .i64 a) (hj : σ j = .int .i64 b) (hm : σ m = .int .i64 (a - b)) (h : -9223372036854775808 ≤ a - b) (h' : a - b ≤ 9223372036854775807) : (Fact.bin .sub (.chan (some i)) (.chan (some j)) (.chan (some m))).Holds P σ :=
  ⟨.inl ⟨i, rfl, by rw [hi]; rfl⟩, .inl ⟨j, rfl, by rw [hj]; rfl⟩, .inl ⟨m, rfl, by rw [hm]; rfl⟩, fun t x z w => by simp only [inst, hi, hj, hm]; exact sub_run h h' t x z w⟩
end
end Go.Proofs.Ytdhdaknfmpfegaa.Ev
