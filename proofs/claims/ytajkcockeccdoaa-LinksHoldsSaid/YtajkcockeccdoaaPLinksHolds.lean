/-
  LinksHolds, for every input: the law returns true, and its arguments read as before. No condition.
-/
import Derived.Test.YtajkcockeccdoaaRows
import Derived.Test.YtajkcockeccdoaaEvX
import Derived.Test.YtajkcockeccdoaaLaid
import Derived.Test.YtajkcockeccdoaaLnkCc
import Derived.Test.YtajkcockeccdoaaSlI
import Derived.Test.YtajkcockeccdoaaK14known
import Derived.Test.YtajkcockeccdoaaSl
import Derived.WalkKit
import Derived.ProofKit
import Derived.OpenShut
import Derived.ShutString
import Derived.ChangeOld
import Derived.Below
import Derived.Carry
import Derived.WideShapes
namespace Go.Proofs.Ytajkcockeccdoaa.linksHolds
open Go.ChangeShapes Go.WideShapes Go.ChangeAt Go.RowKit
open Go.ChangeMaps (open_string shut_string)
set_option linter.unusedVariables false
set_option linter.unusedSimpArgs false

theorem own : ownKnob Try.prog.godebug = none := by kernel_rfl
theorem laidOut : laidOutB Try.prog = true := by kernel_rfl

theorem walk (a0 : Int) (a1 : Int) (a2 : Option Addr) (l2 c2 : Nat) (a3 : Int) (w0 : (Lit.int .i64 a0).wf = true) (w1 : (Lit.int .i64 a1).wf = true) (w3 : (Lit.int .u8 a3).wf = true) (w : World) (s2 : (a2 = none ∧ l2 = 0) ∨ ∃ x, a2 = some x ∧ l2 ≤ c2 ∧ c2 ≤ maxLen ∧ ∀ i, i < l2 → ∃ (z0 : Int) (z1 : Int) (z2 : Int) (z3 : Int) (z4 : Int) (p5 : Option Addr) (m5 k5 : Nat), w.cell? (x.add (i * 6 + 0)) = some (.int .i64 z0) ∧ w.cell? (x.add (i * 6 + 1)) = some (.int .i64 z1) ∧ w.cell? (x.add (i * 6 + 2)) = some (.int .i64 z2) ∧ w.cell? (x.add (i * 6 + 3)) = some (.int .u32 z3) ∧ w.cell? (x.add (i * 6 + 4)) = some (.int .u32 z4) ∧ w.cell? (x.add (i * 6 + 5)) = some (.slice p5 m5 k5) ∧ (Lit.int .i64 z0).wf = true ∧ (Lit.int .i64 z1).wf = true ∧ (Lit.int .i64 z2).wf = true ∧ (Lit.int .u32 z3).wf = true ∧ (Lit.int .u32 z4).wf = true ∧ ((p5 = none ∧ m5 = 0) ∨ ∃ y, p5 = some y ∧ m5 ≤ k5 ∧ k5 ≤ maxLen ∧ ∀ i, i < m5 → ∃ z : Int, w.cell? (y.add i) = some (.int .u32 z) ∧ (Lit.int .u32 z).wf = true))    :
    Calls Try.prog 7 #[.int .i64 a0, .int .i64 a1, .slice a2 l2 c2, .int .u8 a3] w fun e w' => e = .returned (.bool true) ∧ Below w.heap.size w w' := by
  have HKN := Ev.known_later YtajkcockeccdoaaK14known.known (by kernel_rfl) (σ := fun _ => undef) w Ev.gnil Ev.hnil
  have b3 := Ev.wf_u8 w3
  exact Lnk.lholds_any (Lnk.actl_of s2) ⟨b3.1, by omega⟩ HKN

set_option maxRecDepth 100000 in
theorem lifted (os : Os) (started : os.Started) (H : Type) (enc : TypeId × Value → H) :
    ReturnsInHanded {} Try.checked os 7 .any (Rows.linksHoldsSpec.pre6 enc Try.prog Try.f7 Rows.linksHoldsRow.domain false) (Rows.linksHoldsSpec.post enc Try.prog Try.f7 false true false false) := by
  refine returnsInHanded_of_change (C := Try.checked) own started (by kernel_rfl) Try.func7
    (ChangeSpec.witness6 (enc := enc) (C := Try.checked) false ⟨#[], #[.int .i64 0, .int .i64 0, .slice none 0 0, .int .u8 0], []⟩ 8 (by kernel_rfl) (by kernel_rfl) (by kernel_rfl) (by kernel_rfl)) ?_
  intro W base args ds gs before hval0 hW hcnd _
  have hval : ∀ (j : Nat) t v, Try.f7.params[j]? = some t → args[j]? = some v → Value.okWide Try.prog W .any base t v := hval0
  have hW' := hW
  obtain ⟨p, q, hA0, hV, rfl, hfz, hnd⟩ := hW
  have hA : DataW.TrodAll enc Try.prog W 0 (fun _ => true) true Try.f7.params.toList args.toList ds p := hA0
  rw [Try.params7] at hA hval
  obtain ⟨v0, vs0, d0, ds0, p0, q0, hargs, rfl, rfl, h0, r0⟩ := trodAll_cons hA
  obtain ⟨v1, vs1, d1, ds1, p1, q1, rfl, rfl, rfl, h1, r1⟩ := trodAll_cons r0
  obtain ⟨v2, vs2, d2, ds2, p2, q2, rfl, rfl, rfl, h2, r2⟩ := trodAll_cons r1
  obtain ⟨v3, vs3, d3, ds3, p3, q3, rfl, rfl, rfl, h3, r3⟩ := trodAll_cons r2
  obtain ⟨rfl, rfl, rfl⟩ := trodAll_nil r3
  obtain rfl : args = #[v0, v1, v2, v3] := by cases args; simp_all
  obtain ⟨rfl, rfl⟩ := trodVars_none hV
  obtain ⟨a0, rfl, rfl, rfl, w0⟩ := open_int (by kernel_rfl : Try.prog.underlying 3 = some (.int .i64)) (hval 0 3 v0 rfl rfl) h0
  obtain ⟨a1, rfl, rfl, rfl, w1⟩ := open_int (by kernel_rfl : Try.prog.underlying 3 = some (.int .i64)) (hval 1 3 v1 rfl rfl) h1
  have k2 := h2
  have lt2 : ∀ x ∈ p2, x.block < W.heap.size := by obtain ⟨m, hm⟩ := k2; exact DataW.trod_lt m _ _ _ hm
  obtain ⟨a2, l2, c2, rfl⟩ := okWide_slice (by kernel_rfl : Try.prog.underlying 34 = some (.slice 41)) (hval 2 34 v2 rfl rfl)
  have s2 : (a2 = none ∧ l2 = 0) ∨ ∃ x, a2 = some x ∧ l2 ≤ c2 ∧ c2 ≤ maxLen ∧ ∀ i, i < l2 → ∃ (z0 : Int) (z1 : Int) (z2 : Int) (z3 : Int) (z4 : Int) (p5 : Option Addr) (m5 k5 : Nat), W.cell? (x.add (i * 6 + 0)) = some (.int .i64 z0) ∧ W.cell? (x.add (i * 6 + 1)) = some (.int .i64 z1) ∧ W.cell? (x.add (i * 6 + 2)) = some (.int .i64 z2) ∧ W.cell? (x.add (i * 6 + 3)) = some (.int .u32 z3) ∧ W.cell? (x.add (i * 6 + 4)) = some (.int .u32 z4) ∧ W.cell? (x.add (i * 6 + 5)) = some (.slice p5 m5 k5) ∧ (Lit.int .i64 z0).wf = true ∧ (Lit.int .i64 z1).wf = true ∧ (Lit.int .i64 z2).wf = true ∧ (Lit.int .u32 z3).wf = true ∧ (Lit.int .u32 z4).wf = true ∧ ((p5 = none ∧ m5 = 0) ∨ ∃ y, p5 = some y ∧ m5 ≤ k5 ∧ k5 ≤ maxLen ∧ ∀ i, i < m5 → ∃ z : Int, W.cell? (y.add i) = some (.int .u32 z) ∧ (Lit.int .u32 z).wf = true) := by
    rcases Ev.rows_of (by kernel_rfl : Try.prog.underlying 34 = some (.slice 41)) k2 with h | ⟨x, hx, h1, h2, h3⟩
    · exact .inl h
    · refine .inr ⟨x, hx, h1, h2, fun i hi => ?_⟩
      obtain ⟨cs, d, ps, q0, q1, q2⟩ := h3 i hi
      have hn : Try.prog.cellsOf 41 = 6 := by kernel_rfl
      rw [hn] at q0 q1
      obtain ⟨fu0, y0, g0⟩ := Ev.field_of Try.underlying41 q2 0 rfl
      obtain ⟨z0, e0, w0⟩ := Ev.cell_int (o := 0) (by kernel_rfl : Try.prog.underlying 3 = some (.int .i64)) (by kernel_rfl) g0
      obtain ⟨fu1, y1, g1⟩ := Ev.field_of Try.underlying41 q2 1 rfl
      obtain ⟨z1, e1, w1⟩ := Ev.cell_int (o := 1) (by kernel_rfl : Try.prog.underlying 3 = some (.int .i64)) (by kernel_rfl) g1
      obtain ⟨fu2, y2, g2⟩ := Ev.field_of Try.underlying41 q2 2 rfl
      obtain ⟨z2, e2, w2⟩ := Ev.cell_int (o := 2) (by kernel_rfl : Try.prog.underlying 3 = some (.int .i64)) (by kernel_rfl) g2
      obtain ⟨fu3, y3, g3⟩ := Ev.field_of Try.underlying41 q2 3 rfl
      obtain ⟨z3, e3, w3⟩ := Ev.cell_int (o := 3) (by kernel_rfl : Try.prog.underlying 38 = some (.int .u32)) (by kernel_rfl) g3
      obtain ⟨fu4, y4, g4⟩ := Ev.field_of Try.underlying41 q2 4 rfl
      obtain ⟨z4, e4, w4⟩ := Ev.cell_int (o := 4) (by kernel_rfl : Try.prog.underlying 38 = some (.int .u32)) (by kernel_rfl) g4
      obtain ⟨fu5, y5, g5⟩ := Ev.field_of Try.underlying41 q2 5 rfl
      obtain ⟨p5, m5, k5, e5, dd5, pp5, tr5⟩ := Ev.cell_rows (o := 5) (by kernel_rfl : Try.prog.underlying 39 = some (.slice 38)) (by kernel_rfl) g5
      have w5 : ((p5 = none ∧ m5 = 0) ∨ ∃ y, p5 = some y ∧ m5 ≤ k5 ∧ k5 ≤ maxLen ∧ ∀ i, i < m5 → ∃ z : Int, W.cell? (y.add i) = some (.int .u32 z) ∧ (Lit.int .u32 z).wf = true) := by
        rcases Ev.rows_of (by kernel_rfl : Try.prog.underlying 39 = some (.slice 38)) tr5 with h | ⟨x, hx, h1, h2, h3⟩
        · exact .inl h
        · refine .inr ⟨x, hx, h1, h2, fun i hi => ?_⟩
          obtain ⟨cs, d, ps, q0, q1, q2⟩ := h3 i hi
          have hn : Try.prog.cellsOf 38 = 1 := by kernel_rfl
          rw [hn] at q0 q1
          obtain ⟨z, e0, w0⟩ := Ev.int_of (by kernel_rfl : Try.prog.underlying 38 = some (.int .u32)) hn q2 q0
          refine ⟨z, ?_, w0⟩
          have := (q1 0 (by omega)).trans e0
          rwa [Nat.mul_one, Nat.add_zero] at this
      exact ⟨z0, z1, z2, z3, z4, p5, m5, k5, (q1 0 (by omega)).trans e0, (q1 1 (by omega)).trans e1, (q1 2 (by omega)).trans e2, (q1 3 (by omega)).trans e3, (q1 4 (by omega)).trans e4, (q1 5 (by omega)).trans e5, w0, w1, w2, w3, w4, w5⟩
  obtain ⟨a3, rfl, rfl, rfl, w3⟩ := open_int (by kernel_rfl : Try.prog.underlying 5 = some (.int .u8)) (hval 3 5 v3 rfl rfl) h3
  clear hA0 hval0
  simp only [List.append_nil] at hW'
  refine (walk a0 a1 a2 l2 c2 a3 w0 w1 w3 W s2).mono fun e W' ⟨he, bel⟩ => ?_
  subst he
  exact ⟨_, rfl, _, _, _, [], _, [], hW', trodAll_mk1 (shut_bool (by kernel_rfl : Try.prog.underlying 4 = some .bool) _), (trodAll_cons_mk (shut_int (by kernel_rfl : Try.prog.underlying 3 = some (.int .i64)) w0) (trodAll_cons_mk (shut_int (by kernel_rfl : Try.prog.underlying 3 = some (.int .i64)) w1) (trodAll_cons_mk (Below.trod laidOut (by kernel_rfl) (of_decide_eq_true (by kernel_rfl)) k2 bel lt2) (trodAll_cons_mk (shut_int (by kernel_rfl : Try.prog.underlying 5 = some (.int .u8)) w3) trodAll_mk0)))), rfl, bel.frame _, fun h => by cases h⟩

theorem over : Rows.linksHoldsRow.holds Try.pinned (OpenSpec.ofChange Rows.linksHoldsSpec) :=
  OpenClaim.holds_of_wide 7 Try.f7 rfl rfl rfl rfl rfl rfl rfl ⟨rfl, rfl, rfl, rfl, rfl⟩ rfl rfl rfl rfl rfl (by kernel_rfl) Try.func7 (by kernel_rfl)
    (of_decide_eq_true (by kernel_rfl)) (by unfold Func.isWrapper; first | (rw [if_pos (by decide +kernel)]; kernel_rfl) | (rw [if_neg (by decide +kernel)]; exact ⟨rfl, rfl⟩))
    (fun os started H enc _ => lifted os started H enc)

theorem proved : Rows.LinksHoldsSaid :=
  over
#print axioms proved
end Go.Proofs.Ytajkcockeccdoaa.linksHolds
