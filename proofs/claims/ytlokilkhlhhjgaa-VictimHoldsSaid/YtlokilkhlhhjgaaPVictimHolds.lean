/-
  VictimHolds, for every input: the law returns true, and its arguments read as before. No condition.
-/
import Derived.Test.YtlokilkhlhhjgaaRows
import Derived.Test.YtlokilkhlhhjgaaEvX
import Derived.Test.YtlokilkhlhhjgaaLaid
import Derived.Test.YtlokilkhlhhjgaaVicAd
import Derived.Test.YtlokilkhlhhjgaaK18known
import Derived.Test.YtlokilkhlhhjgaaSl
import Derived.WalkKit
import Derived.ProofKit
import Derived.OpenShut
import Derived.ShutString
import Derived.ChangeOld
import Derived.Below
import Derived.Carry
import Derived.WideShapes
namespace Go.Proofs.Ytlokilkhlhhjgaa.victimHolds
open Go.ChangeShapes Go.WideShapes Go.ChangeAt Go.RowKit
open Go.ChangeMaps (open_string shut_string)
set_option linter.unusedVariables false
set_option linter.unusedSimpArgs false

theorem own : ownKnob Try.prog.godebug = none := by kernel_rfl
theorem laidOut : laidOutB Try.prog = true := by kernel_rfl

theorem walk (a0_0 : Option Addr) (l0_0 c0_0 : Nat) (a0_1 : Option Addr) (l0_1 c0_1 : Nat) (a1 : Int) (a2 : Int) (a3 : Int) (a4 : Int) (w1 : (Lit.int .i64 a1).wf = true) (w2 : (Lit.int .i64 a2).wf = true) (w3 : (Lit.int .u8 a3).wf = true) (w4 : (Lit.int .u8 a4).wf = true) (w : World)  (s0_0 : (a0_0 = none ∧ l0_0 = 0) ∨ ∃ x, a0_0 = some x ∧ l0_0 ≤ c0_0 ∧ c0_0 ≤ maxLen ∧ ∀ i, i < l0_0 → ∃ (z0 : Int) (z1 : Int), w.cell? (x.add (i * 2 + 0)) = some (.int .u32 z0) ∧ w.cell? (x.add (i * 2 + 1)) = some (.int .i64 z1) ∧ (Lit.int .u32 z0).wf = true ∧ (Lit.int .i64 z1).wf = true) (s0_1 : (a0_1 = none ∧ l0_1 = 0) ∨ ∃ x, a0_1 = some x ∧ l0_1 ≤ c0_1 ∧ c0_1 ≤ maxLen ∧ ∀ i, i < l0_1 → ∃ (z0 : Int) (z1 : Int), w.cell? (x.add (i * 2 + 0)) = some (.int .u32 z0) ∧ w.cell? (x.add (i * 2 + 1)) = some (.int .i64 z1) ∧ (Lit.int .u32 z0).wf = true ∧ (Lit.int .i64 z1).wf = true)   :
    Calls Try.prog 6 #[.agg #[.slice a0_0 l0_0 c0_0, .slice a0_1 l0_1 c0_1], .int .i64 a1, .int .i64 a2, .int .u8 a3, .int .u8 a4] w fun e w' => e = .returned (.bool true) ∧ Below w.heap.size w w' := by
  have HKN := Ev.known_later YtlokilkhlhhjgaaK18known.known (by kernel_rfl) (σ := fun _ => undef) w Ev.gnil Ev.hnil
  have b1 := Ev.wf_i64 w1
  have b2 := Ev.wf_i64 w2
  have b3 := Ev.wf_u8 w3
  have b4 := Ev.wf_u8 w4
  obtain ⟨z1, e1, r1, f1⟩ := Vic.rows_rd s0_0
  obtain ⟨z2, e2, r2, f2⟩ := Vic.rows_rd s0_1
  exact Vic.lholds_any e1 e2 r1 r2 f1 f2 b1.1 (by omega) b2.1 (by omega) b3.1 (by omega) b4.1 (by omega) HKN

set_option maxRecDepth 100000 in
theorem lifted (os : Os) (started : os.Started) (H : Type) (enc : TypeId × Value → H) :
    ReturnsInHanded {} Try.checked os 6 .any (Rows.victimHoldsSpec.pre6 enc Try.prog Try.f6 Rows.victimHoldsRow.domain false) (Rows.victimHoldsSpec.post enc Try.prog Try.f6 false true false false) := by
  refine returnsInHanded_of_change (C := Try.checked) own started (by kernel_rfl) Try.func6
    (ChangeSpec.witness6 (enc := enc) (C := Try.checked) false ⟨#[], #[.agg #[.slice none 0 0, .slice none 0 0], .int .i64 0, .int .i64 0, .int .u8 0, .int .u8 0], []⟩ 8 (by kernel_rfl) (by kernel_rfl) (by kernel_rfl) (by kernel_rfl)) ?_
  intro W base args ds gs before hval0 hW hcnd _
  have hval : ∀ (j : Nat) t v, Try.f6.params[j]? = some t → args[j]? = some v → Value.okWide Try.prog W .any base t v := hval0
  have hW' := hW
  obtain ⟨p, q, hA0, hV, rfl, hfz, hnd⟩ := hW
  have hA : DataW.TrodAll enc Try.prog W 0 (fun _ => true) true Try.f6.params.toList args.toList ds p := hA0
  rw [Try.params6] at hA hval
  obtain ⟨v0, vs0, d0, ds0, p0, q0, hargs, rfl, rfl, h0, r0⟩ := trodAll_cons hA
  obtain ⟨v1, vs1, d1, ds1, p1, q1, rfl, rfl, rfl, h1, r1⟩ := trodAll_cons r0
  obtain ⟨v2, vs2, d2, ds2, p2, q2, rfl, rfl, rfl, h2, r2⟩ := trodAll_cons r1
  obtain ⟨v3, vs3, d3, ds3, p3, q3, rfl, rfl, rfl, h3, r3⟩ := trodAll_cons r2
  obtain ⟨v4, vs4, d4, ds4, p4, q4, rfl, rfl, rfl, h4, r4⟩ := trodAll_cons r3
  obtain ⟨rfl, rfl, rfl⟩ := trodAll_nil r4
  obtain rfl : args = #[v0, v1, v2, v3, v4] := by cases args; simp_all
  obtain ⟨rfl, rfl⟩ := trodVars_none hV
  have k0 := h0
  have lt0 : ∀ x ∈ p0, x.block < W.heap.size := by obtain ⟨m, hm⟩ := k0; exact DataW.trod_lt m _ _ _ hm
  obtain ⟨cs0, rfl, hs0⟩ := okWide_struct Try.underlying24 (hval 0 24 v0 rfl rfl)
  obtain ⟨fu0_0, x0_0, f0_0⟩ := Ev.field_of Try.underlying24 h0 0 rfl
  obtain ⟨a0_0, l0_0, c0_0, e0_0, dd0_0, pp0_0, tr0_0⟩ := Ev.cell_rows (o := 0) (by kernel_rfl : Try.prog.underlying 22 = some (.slice 34)) (by kernel_rfl) f0_0
  have s0_0 : (a0_0 = none ∧ l0_0 = 0) ∨ ∃ x, a0_0 = some x ∧ l0_0 ≤ c0_0 ∧ c0_0 ≤ maxLen ∧ ∀ i, i < l0_0 → ∃ (z0 : Int) (z1 : Int), W.cell? (x.add (i * 2 + 0)) = some (.int .u32 z0) ∧ W.cell? (x.add (i * 2 + 1)) = some (.int .i64 z1) ∧ (Lit.int .u32 z0).wf = true ∧ (Lit.int .i64 z1).wf = true := by
    rcases Ev.rows_of (by kernel_rfl : Try.prog.underlying 22 = some (.slice 34)) tr0_0 with h | ⟨x, hx, h1, h2, h3⟩
    · exact .inl h
    · refine .inr ⟨x, hx, h1, h2, fun i hi => ?_⟩
      obtain ⟨cs, d, ps, q0, q1, q2⟩ := h3 i hi
      have hn : Try.prog.cellsOf 34 = 2 := by kernel_rfl
      rw [hn] at q0 q1
      obtain ⟨fu0, y0, g0⟩ := Ev.field_of Try.underlying34 q2 0 rfl
      obtain ⟨z0, e0, w0⟩ := Ev.cell_int (o := 0) (by kernel_rfl : Try.prog.underlying 25 = some (.int .u32)) (by kernel_rfl) g0
      obtain ⟨fu1, y1, g1⟩ := Ev.field_of Try.underlying34 q2 1 rfl
      obtain ⟨z1, e1, w1⟩ := Ev.cell_int (o := 1) (by kernel_rfl : Try.prog.underlying 3 = some (.int .i64)) (by kernel_rfl) g1
      exact ⟨z0, z1, (q1 0 (by omega)).trans e0, (q1 1 (by omega)).trans e1, w0, w1⟩
  obtain ⟨fu0_1, x0_1, f0_1⟩ := Ev.field_of Try.underlying24 h0 1 rfl
  obtain ⟨a0_1, l0_1, c0_1, e0_1, dd0_1, pp0_1, tr0_1⟩ := Ev.cell_rows (o := 1) (by kernel_rfl : Try.prog.underlying 22 = some (.slice 34)) (by kernel_rfl) f0_1
  have s0_1 : (a0_1 = none ∧ l0_1 = 0) ∨ ∃ x, a0_1 = some x ∧ l0_1 ≤ c0_1 ∧ c0_1 ≤ maxLen ∧ ∀ i, i < l0_1 → ∃ (z0 : Int) (z1 : Int), W.cell? (x.add (i * 2 + 0)) = some (.int .u32 z0) ∧ W.cell? (x.add (i * 2 + 1)) = some (.int .i64 z1) ∧ (Lit.int .u32 z0).wf = true ∧ (Lit.int .i64 z1).wf = true := by
    rcases Ev.rows_of (by kernel_rfl : Try.prog.underlying 22 = some (.slice 34)) tr0_1 with h | ⟨x, hx, h1, h2, h3⟩
    · exact .inl h
    · refine .inr ⟨x, hx, h1, h2, fun i hi => ?_⟩
      obtain ⟨cs, d, ps, q0, q1, q2⟩ := h3 i hi
      have hn : Try.prog.cellsOf 34 = 2 := by kernel_rfl
      rw [hn] at q0 q1
      obtain ⟨fu0, y0, g0⟩ := Ev.field_of Try.underlying34 q2 0 rfl
      obtain ⟨z0, e0, w0⟩ := Ev.cell_int (o := 0) (by kernel_rfl : Try.prog.underlying 25 = some (.int .u32)) (by kernel_rfl) g0
      obtain ⟨fu1, y1, g1⟩ := Ev.field_of Try.underlying34 q2 1 rfl
      obtain ⟨z1, e1, w1⟩ := Ev.cell_int (o := 1) (by kernel_rfl : Try.prog.underlying 3 = some (.int .i64)) (by kernel_rfl) g1
      exact ⟨z0, z1, (q1 0 (by omega)).trans e0, (q1 1 (by omega)).trans e1, w0, w1⟩
  obtain rfl : cs0 = #[.slice a0_0 l0_0 c0_0, .slice a0_1 l0_1 c0_1] := Ev.cells_eq [.slice a0_0 l0_0 c0_0, .slice a0_1 l0_1 c0_1] (hs0.trans (by kernel_rfl)) fun j v hj => match j, hj with
    | 0, hj => by cases hj; exact e0_0
    | 1, hj => by cases hj; exact e0_1
    | j + 2, hj => by cases hj
  obtain ⟨a1, rfl, rfl, rfl, w1⟩ := open_int (by kernel_rfl : Try.prog.underlying 3 = some (.int .i64)) (hval 1 3 v1 rfl rfl) h1
  obtain ⟨a2, rfl, rfl, rfl, w2⟩ := open_int (by kernel_rfl : Try.prog.underlying 3 = some (.int .i64)) (hval 2 3 v2 rfl rfl) h2
  obtain ⟨a3, rfl, rfl, rfl, w3⟩ := open_int (by kernel_rfl : Try.prog.underlying 5 = some (.int .u8)) (hval 3 5 v3 rfl rfl) h3
  obtain ⟨a4, rfl, rfl, rfl, w4⟩ := open_int (by kernel_rfl : Try.prog.underlying 5 = some (.int .u8)) (hval 4 5 v4 rfl rfl) h4
  clear hA0 hval0
  simp only [List.append_nil] at hW'
  refine (walk a0_0 l0_0 c0_0 a0_1 l0_1 c0_1 a1 a2 a3 a4 w1 w2 w3 w4 W s0_0 s0_1).mono fun e W' ⟨he, bel⟩ => ?_
  subst he
  exact ⟨_, rfl, _, _, _, [], _, [], hW', trodAll_mk1 (shut_bool (by kernel_rfl : Try.prog.underlying 4 = some .bool) _), (trodAll_cons_mk (Below.trod laidOut (by kernel_rfl) (of_decide_eq_true (by kernel_rfl)) k0 bel lt0) (trodAll_cons_mk (shut_int (by kernel_rfl : Try.prog.underlying 3 = some (.int .i64)) w1) (trodAll_cons_mk (shut_int (by kernel_rfl : Try.prog.underlying 3 = some (.int .i64)) w2) (trodAll_cons_mk (shut_int (by kernel_rfl : Try.prog.underlying 5 = some (.int .u8)) w3) (trodAll_cons_mk (shut_int (by kernel_rfl : Try.prog.underlying 5 = some (.int .u8)) w4) trodAll_mk0))))), rfl, bel.frame _, fun h => by cases h⟩

theorem over : Rows.victimHoldsRow.holds Try.pinned (OpenSpec.ofChange Rows.victimHoldsSpec) :=
  OpenClaim.holds_of_wide 6 Try.f6 rfl rfl rfl rfl rfl rfl rfl ⟨rfl, rfl, rfl, rfl, rfl⟩ rfl rfl rfl rfl rfl (by kernel_rfl) Try.func6 (by kernel_rfl)
    (of_decide_eq_true (by kernel_rfl)) (by unfold Func.isWrapper; first | (rw [if_pos (by decide +kernel)]; kernel_rfl) | (rw [if_neg (by decide +kernel)]; exact ⟨rfl, rfl⟩))
    (fun os started H enc _ => lifted os started H enc)

theorem proved : Rows.VictimHoldsSaid :=
  over
#print axioms proved
end Go.Proofs.Ytlokilkhlhhjgaa.victimHolds
