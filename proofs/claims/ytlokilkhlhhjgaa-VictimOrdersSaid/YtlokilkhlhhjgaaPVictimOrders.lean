/-
  VictimOrders, for every input: the law returns true, and its arguments read as before. No condition.
-/
import Derived.Test.YtlokilkhlhhjgaaRows
import Derived.Test.YtlokilkhlhhjgaaEvX
import Derived.Test.YtlokilkhlhhjgaaLaid
import Derived.Test.YtlokilkhlhhjgaaVicX
import Derived.Test.YtlokilkhlhhjgaaK18known
import Derived.Test.YtlokilkhlhhjgaaSl
import Derived.WalkKit
import Derived.ProofKit
import Derived.OpenShut
import Derived.ShutString
import Derived.ChangeOld
import Derived.Below
import Derived.Carry
import Derived.WideShapes
namespace Go.Proofs.Ytlokilkhlhhjgaa.victimOrders
open Go.ChangeShapes Go.WideShapes Go.ChangeAt Go.RowKit
open Go.ChangeMaps (open_string shut_string)
set_option linter.unusedVariables false
set_option linter.unusedSimpArgs false

theorem own : ownKnob Try.prog.godebug = none := by kernel_rfl
theorem laidOut : laidOutB Try.prog = true := by kernel_rfl

theorem walk (a0_0 : Option Addr) (l0_0 c0_0 : Nat) (a0_1 : Option Addr) (l0_1 c0_1 : Nat) (a1 : Int) (w1 : (Lit.int .u32 a1).wf = true) (w : World)  (s0_0 : (a0_0 = none ∧ l0_0 = 0) ∨ ∃ x, a0_0 = some x ∧ l0_0 ≤ c0_0 ∧ c0_0 ≤ maxLen ∧ ∀ i, i < l0_0 → ∃ (z0 : Int) (z1 : Int), w.cell? (x.add (i * 2 + 0)) = some (.int .u32 z0) ∧ w.cell? (x.add (i * 2 + 1)) = some (.int .i64 z1) ∧ (Lit.int .u32 z0).wf = true ∧ (Lit.int .i64 z1).wf = true) (s0_1 : (a0_1 = none ∧ l0_1 = 0) ∨ ∃ x, a0_1 = some x ∧ l0_1 ≤ c0_1 ∧ c0_1 ≤ maxLen ∧ ∀ i, i < l0_1 → ∃ (z0 : Int) (z1 : Int), w.cell? (x.add (i * 2 + 0)) = some (.int .u32 z0) ∧ w.cell? (x.add (i * 2 + 1)) = some (.int .i64 z1) ∧ (Lit.int .u32 z0).wf = true ∧ (Lit.int .i64 z1).wf = true)   :
    Calls Try.prog 3 #[.agg #[.slice a0_0 l0_0 c0_0, .slice a0_1 l0_1 c0_1], .int .u32 a1] w fun e w' => e = .returned (.bool true) ∧ Below w.heap.size w w' := by
  have HKN := Ev.known_later YtlokilkhlhhjgaaK18known.known (by kernel_rfl) (σ := fun _ => undef) w Ev.gnil Ev.hnil
  obtain ⟨z1, e1, r1, f1⟩ := Vic.rows_rd s0_0
  obtain ⟨z2, e2, r2, f2⟩ := Vic.rows_rd s0_1
  exact Vic.lorders_any e1 e2 r1 r2 f1 f2 HKN

set_option maxRecDepth 100000 in
theorem lifted (os : Os) (started : os.Started) (H : Type) (enc : TypeId × Value → H) :
    ReturnsInHanded {} Try.checked os 3 .any (Rows.victimOrdersSpec.pre6 enc Try.prog Try.f3 Rows.victimOrdersRow.domain false) (Rows.victimOrdersSpec.post enc Try.prog Try.f3 false true false false) := by
  refine returnsInHanded_of_change (C := Try.checked) own started (by kernel_rfl) Try.func3
    (ChangeSpec.witness6 (enc := enc) (C := Try.checked) false ⟨#[], #[.agg #[.slice none 0 0, .slice none 0 0], .int .u32 0], []⟩ 8 (by kernel_rfl) (by kernel_rfl) (by kernel_rfl) (by kernel_rfl)) ?_
  intro W base args ds gs before hval0 hW hcnd _
  have hval : ∀ (j : Nat) t v, Try.f3.params[j]? = some t → args[j]? = some v → Value.okWide Try.prog W .any base t v := hval0
  have hW' := hW
  obtain ⟨p, q, hA0, hV, rfl, hfz, hnd⟩ := hW
  have hA : DataW.TrodAll enc Try.prog W 0 (fun _ => true) true Try.f3.params.toList args.toList ds p := hA0
  rw [Try.params3] at hA hval
  obtain ⟨v0, vs0, d0, ds0, p0, q0, hargs, rfl, rfl, h0, r0⟩ := trodAll_cons hA
  obtain ⟨v1, vs1, d1, ds1, p1, q1, rfl, rfl, rfl, h1, r1⟩ := trodAll_cons r0
  obtain ⟨rfl, rfl, rfl⟩ := trodAll_nil r1
  obtain rfl : args = #[v0, v1] := by cases args; simp_all
  obtain ⟨rfl, rfl⟩ := trodVars_none hV
  have k0 := h0
  have lt0 : ∀ x ∈ p0, x.block < W.heap.size := by obtain ⟨m, hm⟩ := k0; exact DataW.trod_lt m _ _ _ hm
  obtain ⟨cs0, rfl, hs0⟩ := okWide_struct Try.underlying24 (hval 0 24 v0 rfl rfl)
  obtain ⟨fu0_0, x0_0, f0_0⟩ := Ev.field_of Try.underlying24 h0 0 rfl
  obtain ⟨a0_0, l0_0, c0_0, e0_0, dd0_0, pp0_0, tr0_0⟩ := Ev.cell_rows (o := 0) (by kernel_rfl : Try.prog.underlying 22 = some (.slice 34)) (by kernel_rfl) f0_0
  have s0_0 : (a0_0 = none ∧ l0_0 = 0) ∨ ∃ x, a0_0 = some x ∧ l0_0 ≤ c0_0 ∧ c0_0 ≤ maxLen ∧ ∀ i, i < l0_0 → ∃ (z0 : Int) (z1 : Int), W.cell? (x.add (i * 2 + 0)) = some (.int .u32 z0) ∧ W.cell? (x.add (i * 2 + 1)) = some (.int .i64 z1) ∧ (Lit.int .u32 z0).wf = true ∧ (Lit.int .i64 z1).wf = true := by
    rcases Ev.rows_of (by kernel_rfl : Try.prog.underlying 22 = some (.slice 34)) tr0_0 with h | ⟨x, hx, h1, h2, h3⟩
    · exact .inl h
    · refine .inr ⟨x, hx, h1, h2, fun i hi => ?_⟩
      obtain ⟨cs, d, ps, q0, q1, q2⟩ := h3 i hi
      have hn : Try.prog.cellsOf 34 = 2 := by kernel_rfl
      rw [hn] at q0 q1
      obtain ⟨fu0, y0, g0⟩ := Ev.field_of Try.underlying34 q2 0 rfl
      obtain ⟨z0, e0, w0⟩ := Ev.cell_int (o := 0) (by kernel_rfl : Try.prog.underlying 25 = some (.int .u32)) (by kernel_rfl) g0
      obtain ⟨fu1, y1, g1⟩ := Ev.field_of Try.underlying34 q2 1 rfl
      obtain ⟨z1, e1, w1⟩ := Ev.cell_int (o := 1) (by kernel_rfl : Try.prog.underlying 3 = some (.int .i64)) (by kernel_rfl) g1
      exact ⟨z0, z1, (q1 0 (by omega)).trans e0, (q1 1 (by omega)).trans e1, w0, w1⟩
  obtain ⟨fu0_1, x0_1, f0_1⟩ := Ev.field_of Try.underlying24 h0 1 rfl
  obtain ⟨a0_1, l0_1, c0_1, e0_1, dd0_1, pp0_1, tr0_1⟩ := Ev.cell_rows (o := 1) (by kernel_rfl : Try.prog.underlying 22 = some (.slice 34)) (by kernel_rfl) f0_1
  have s0_1 : (a0_1 = none ∧ l0_1 = 0) ∨ ∃ x, a0_1 = some x ∧ l0_1 ≤ c0_1 ∧ c0_1 ≤ maxLen ∧ ∀ i, i < l0_1 → ∃ (z0 : Int) (z1 : Int), W.cell? (x.add (i * 2 + 0)) = some (.int .u32 z0) ∧ W.cell? (x.add (i * 2 + 1)) = some (.int .i64 z1) ∧ (Lit.int .u32 z0).wf = true ∧ (Lit.int .i64 z1).wf = true := by
    rcases Ev.rows_of (by kernel_rfl : Try.prog.underlying 22 = some (.slice 34)) tr0_1 with h | ⟨x, hx, h1, h2, h3⟩
    · exact .inl h
    · refine .inr ⟨x, hx, h1, h2, fun i hi => ?_⟩
      obtain ⟨cs, d, ps, q0, q1, q2⟩ := h3 i hi
      have hn : Try.prog.cellsOf 34 = 2 := by kernel_rfl
      rw [hn] at q0 q1
      obtain ⟨fu0, y0, g0⟩ := Ev.field_of Try.underlying34 q2 0 rfl
      obtain ⟨z0, e0, w0⟩ := Ev.cell_int (o := 0) (by kernel_rfl : Try.prog.underlying 25 = some (.int .u32)) (by kernel_rfl) g0
      obtain ⟨fu1, y1, g1⟩ := Ev.field_of Try.underlying34 q2 1 rfl
      obtain ⟨z1, e1, w1⟩ := Ev.cell_int (o := 1) (by kernel_rfl : Try.prog.underlying 3 = some (.int .i64)) (by kernel_rfl) g1
      exact ⟨z0, z1, (q1 0 (by omega)).trans e0, (q1 1 (by omega)).trans e1, w0, w1⟩
  obtain rfl : cs0 = #[.slice a0_0 l0_0 c0_0, .slice a0_1 l0_1 c0_1] := Ev.cells_eq [.slice a0_0 l0_0 c0_0, .slice a0_1 l0_1 c0_1] (hs0.trans (by kernel_rfl)) fun j v hj => match j, hj with
    | 0, hj => by cases hj; exact e0_0
    | 1, hj => by cases hj; exact e0_1
    | j + 2, hj => by cases hj
  obtain ⟨a1, rfl, rfl, rfl, w1⟩ := open_int (by kernel_rfl : Try.prog.underlying 25 = some (.int .u32)) (hval 1 25 v1 rfl rfl) h1
  clear hA0 hval0
  simp only [List.append_nil] at hW'
  refine (walk a0_0 l0_0 c0_0 a0_1 l0_1 c0_1 a1 w1 W s0_0 s0_1).mono fun e W' ⟨he, bel⟩ => ?_
  subst he
  exact ⟨_, rfl, _, _, _, [], _, [], hW', trodAll_mk1 (shut_bool (by kernel_rfl : Try.prog.underlying 4 = some .bool) _), (trodAll_cons_mk (Below.trod laidOut (by kernel_rfl) (of_decide_eq_true (by kernel_rfl)) k0 bel lt0) (trodAll_cons_mk (shut_int (by kernel_rfl : Try.prog.underlying 25 = some (.int .u32)) w1) trodAll_mk0)), rfl, bel.frame _, fun h => by cases h⟩

theorem over : Rows.victimOrdersRow.holds Try.pinned (OpenSpec.ofChange Rows.victimOrdersSpec) :=
  OpenClaim.holds_of_wide 3 Try.f3 rfl rfl rfl rfl rfl rfl rfl ⟨rfl, rfl, rfl, rfl, rfl⟩ rfl rfl rfl rfl rfl (by kernel_rfl) Try.func3 (by kernel_rfl)
    (of_decide_eq_true (by kernel_rfl)) (by unfold Func.isWrapper; first | (rw [if_pos (by decide +kernel)]; kernel_rfl) | (rw [if_neg (by decide +kernel)]; exact ⟨rfl, rfl⟩))
    (fun os started H enc _ => lifted os started H enc)

theorem proved : Rows.VictimOrdersSaid :=
  over
#print axioms proved
end Go.Proofs.Ytlokilkhlhhjgaa.victimOrders
