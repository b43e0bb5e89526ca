/-
  LruPlays, for every input: the law returns true, and its arguments read as before. No condition.
-/
import Derived.Test.YtajkcockeccdoaaRows
import Derived.Test.YtajkcockeccdoaaLruW
import Derived.Test.YtajkcockeccdoaaLruG
import Derived.Test.YtajkcockeccdoaaSll
import Derived.WalkKit
import Derived.ProofKit
import Derived.OpenShut
import Derived.ShutString
import Derived.ChangeOld
import Derived.Below
import Derived.Carry
import Derived.WideShapes
namespace Go.Proofs.Ytajkcockeccdoaa.lruPlays
open Go.ChangeShapes Go.WideShapes Go.ChangeAt Go.RowKit
open Go.ChangeMaps (open_string shut_string)
set_option linter.unusedVariables false
set_option linter.unusedSimpArgs false

theorem own : ownKnob Try.prog.godebug = none := by kernel_rfl
theorem laidOut : laidOutB Try.prog = true := by kernel_rfl

theorem walk (a0 : Option Addr) (l0 c0 : Nat)  (w : World) (s0 : (a0 = none ∧ l0 = 0) ∨ ∃ x, a0 = some x ∧ l0 ≤ c0 ∧ c0 ≤ maxLen ∧ ∀ i, i < l0 → ∃ (z0 : Int) (z1 : Int) (p2 : Option Addr) (m2 k2 : Nat), w.cell? (x.add (i * 3 + 0)) = some (.int .i64 z0) ∧ w.cell? (x.add (i * 3 + 1)) = some (.int .u32 z1) ∧ w.cell? (x.add (i * 3 + 2)) = some (.slice p2 m2 k2) ∧ (Lit.int .i64 z0).wf = true ∧ (Lit.int .u32 z1).wf = true ∧ ((p2 = none ∧ m2 = 0) ∨ ∃ y, p2 = some y ∧ m2 ≤ k2 ∧ k2 ≤ maxLen ∧ ∀ i, i < m2 → ∃ z : Int, w.cell? (y.add i) = some (.int .u32 z) ∧ (Lit.int .u32 z).wf = true))    :
    Calls Try.prog 8 #[.slice a0 l0 c0] w fun e w' => e = .returned (.bool true) ∧ Below w.heap.size w w' := by
  exact Lru.lplays15 (Lru.acl_of s0) (by rcases s0 with ⟨_, h⟩ | ⟨_, _, h1, h2, _⟩ <;> (have : maxLen ≤ 9223372036854775807 := by decide) <;> omega) fun v _ => Lru.known15 v

set_option maxRecDepth 100000 in
theorem lifted (os : Os) (started : os.Started) (H : Type) (enc : TypeId × Value → H) :
    ReturnsInHanded {} Try.checked os 8 .any (Rows.lruPlaysSpec.pre6 enc Try.prog Try.f8 Rows.lruPlaysRow.domain false) (Rows.lruPlaysSpec.post enc Try.prog Try.f8 false true false false) := by
  refine returnsInHanded_of_change (C := Try.checked) own started (by kernel_rfl) Try.func8
    (ChangeSpec.witness6 (enc := enc) (C := Try.checked) false ⟨#[], #[.slice none 0 0], []⟩ 8 (by kernel_rfl) (by kernel_rfl) (by kernel_rfl) (by kernel_rfl)) ?_
  intro W base args ds gs before hval0 hW hcnd _
  have hval : ∀ (j : Nat) t v, Try.f8.params[j]? = some t → args[j]? = some v → Value.okWide Try.prog W .any base t v := hval0
  have hW' := hW
  obtain ⟨p, q, hA0, hV, rfl, hfz, hnd⟩ := hW
  have hA : DataW.TrodAll enc Try.prog W 0 (fun _ => true) true Try.f8.params.toList args.toList ds p := hA0
  rw [Try.params8] at hA hval
  obtain ⟨v0, vs0, d0, ds0, p0, q0, hargs, rfl, rfl, h0, r0⟩ := trodAll_cons hA
  obtain ⟨rfl, rfl, rfl⟩ := trodAll_nil r0
  obtain rfl : args = #[v0] := by cases args; simp_all
  obtain ⟨rfl, rfl⟩ := trodVars_none hV
  have k0 := h0
  have lt0 : ∀ x ∈ p0, x.block < W.heap.size := by obtain ⟨m, hm⟩ := k0; exact DataW.trod_lt m _ _ _ hm
  obtain ⟨a0, l0, c0, rfl⟩ := okWide_slice (by kernel_rfl : Try.prog.underlying 66 = some (.slice 73)) (hval 0 66 v0 rfl rfl)
  have s0 : (a0 = none ∧ l0 = 0) ∨ ∃ x, a0 = some x ∧ l0 ≤ c0 ∧ c0 ≤ maxLen ∧ ∀ i, i < l0 → ∃ (z0 : Int) (z1 : Int) (p2 : Option Addr) (m2 k2 : Nat), W.cell? (x.add (i * 3 + 0)) = some (.int .i64 z0) ∧ W.cell? (x.add (i * 3 + 1)) = some (.int .u32 z1) ∧ W.cell? (x.add (i * 3 + 2)) = some (.slice p2 m2 k2) ∧ (Lit.int .i64 z0).wf = true ∧ (Lit.int .u32 z1).wf = true ∧ ((p2 = none ∧ m2 = 0) ∨ ∃ y, p2 = some y ∧ m2 ≤ k2 ∧ k2 ≤ maxLen ∧ ∀ i, i < m2 → ∃ z : Int, W.cell? (y.add i) = some (.int .u32 z) ∧ (Lit.int .u32 z).wf = true) := by
    rcases Ev.rows_of (by kernel_rfl : Try.prog.underlying 66 = some (.slice 73)) k0 with h | ⟨x, hx, h1, h2, h3⟩
    · exact .inl h
    · refine .inr ⟨x, hx, h1, h2, fun i hi => ?_⟩
      obtain ⟨cs, d, ps, q0, q1, q2⟩ := h3 i hi
      have hn : Try.prog.cellsOf 73 = 3 := by kernel_rfl
      rw [hn] at q0 q1
      obtain ⟨fu0, y0, g0⟩ := Ev.field_of Try.underlying73 q2 0 rfl
      obtain ⟨z0, e0, w0⟩ := Ev.cell_int (o := 0) (by kernel_rfl : Try.prog.underlying 3 = some (.int .i64)) (by kernel_rfl) g0
      obtain ⟨fu1, y1, g1⟩ := Ev.field_of Try.underlying73 q2 1 rfl
      obtain ⟨z1, e1, w1⟩ := Ev.cell_int (o := 1) (by kernel_rfl : Try.prog.underlying 38 = some (.int .u32)) (by kernel_rfl) g1
      obtain ⟨fu2, y2, g2⟩ := Ev.field_of Try.underlying73 q2 2 rfl
      obtain ⟨p2, m2, k2, e2, dd2, pp2, tr2⟩ := Ev.cell_rows (o := 2) (by kernel_rfl : Try.prog.underlying 39 = some (.slice 38)) (by kernel_rfl) g2
      have w2 : ((p2 = none ∧ m2 = 0) ∨ ∃ y, p2 = some y ∧ m2 ≤ k2 ∧ k2 ≤ maxLen ∧ ∀ i, i < m2 → ∃ z : Int, W.cell? (y.add i) = some (.int .u32 z) ∧ (Lit.int .u32 z).wf = true) := by
        rcases Ev.rows_of (by kernel_rfl : Try.prog.underlying 39 = some (.slice 38)) tr2 with h | ⟨x, hx, h1, h2, h3⟩
        · exact .inl h
        · refine .inr ⟨x, hx, h1, h2, fun i hi => ?_⟩
          obtain ⟨cs, d, ps, q0, q1, q2⟩ := h3 i hi
          have hn : Try.prog.cellsOf 38 = 1 := by kernel_rfl
          rw [hn] at q0 q1
          obtain ⟨z, e0, w0⟩ := Ev.int_of (by kernel_rfl : Try.prog.underlying 38 = some (.int .u32)) hn q2 q0
          refine ⟨z, ?_, w0⟩
          have := (q1 0 (by omega)).trans e0
          rwa [Nat.mul_one, Nat.add_zero] at this
      exact ⟨z0, z1, p2, m2, k2, (q1 0 (by omega)).trans e0, (q1 1 (by omega)).trans e1, (q1 2 (by omega)).trans e2, w0, w1, w2⟩
  clear hA0 hval0
  simp only [List.append_nil] at hW'
  refine (walk a0 l0 c0  W s0).mono fun e W' ⟨he, bel⟩ => ?_
  subst he
  exact ⟨_, rfl, _, _, _, [], _, [], hW', trodAll_mk1 (shut_bool (by kernel_rfl : Try.prog.underlying 4 = some .bool) _), (trodAll_cons_mk (Below.trod laidOut (by kernel_rfl) (of_decide_eq_true (by kernel_rfl)) k0 bel lt0) trodAll_mk0), rfl, bel.frame _, fun h => by cases h⟩

theorem over : Rows.lruPlaysRow.holds Try.pinned (OpenSpec.ofChange Rows.lruPlaysSpec) :=
  OpenClaim.holds_of_wide 8 Try.f8 rfl rfl rfl rfl rfl rfl rfl ⟨rfl, rfl, rfl, rfl, rfl⟩ rfl rfl rfl rfl rfl (by kernel_rfl) Try.func8 (by kernel_rfl)
    (of_decide_eq_true (by kernel_rfl)) (by unfold Func.isWrapper; first | (rw [if_pos (by decide +kernel)]; kernel_rfl) | (rw [if_neg (by decide +kernel)]; exact ⟨rfl, rfl⟩))
    (fun os started H enc _ => lifted os started H enc)

theorem proved : Rows.LruPlaysSaid :=
  over
#print axioms proved
end Go.Proofs.Ytajkcockeccdoaa.lruPlays
