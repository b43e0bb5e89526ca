/-
  ArcOwn, for every input: the law returns true, and its arguments read as before. No condition.
-/
import Derived.Test.YtggimkfepcgaoaaRows
import Derived.Test.YtggimkfepcgaoaaEvX
import Derived.Test.YtggimkfepcgaoaaArqQ
import Derived.Test.YtggimkfepcgaoaaLaid
import Derived.Test.YtggimkfepcgaoaaK29known
import Derived.Test.YtggimkfepcgaoaaSl
import Derived.WalkKit
import Derived.ProofKit
import Derived.OpenShut
import Derived.ShutString
import Derived.ChangeOld
import Derived.Below
import Derived.Carry
import Derived.WideShapes
namespace Go.Proofs.Ytggimkfepcgaoaa.arcOwn
open Go.ChangeShapes Go.WideShapes Go.ChangeAt Go.RowKit
open Go.ChangeMaps (open_string shut_string)
set_option linter.unusedVariables false
set_option linter.unusedSimpArgs false

theorem own : ownKnob Try.prog.godebug = none := by kernel_rfl
theorem laidOut : laidOutB Try.prog = true := by kernel_rfl

theorem walk (a0 : Int) (a1 : Option Addr) (l1 c1 : Nat) (w0 : (Lit.int .i64 a0).wf = true) (w : World) (s1 : (a1 = none ∧ l1 = 0) ∨ ∃ x, a1 = some x ∧ l1 ≤ c1 ∧ c1 ≤ maxLen ∧ ∀ i, i < l1 → ∃ (z0 : Int) (z1 : Int), w.cell? (x.add (i * 2 + 0)) = some (.int .i64 z0) ∧ w.cell? (x.add (i * 2 + 1)) = some (.int .u32 z1) ∧ (Lit.int .i64 z0).wf = true ∧ (Lit.int .u32 z1).wf = true)    :
    Calls Try.prog 12 #[.int .i64 a0, .slice a1 l1 c1] w fun e w' => e = .returned (.bool true) ∧ Below w.heap.size w w' := by
  have HKN := Ev.known_later YtggimkfepcgaoaaK29known.known (by kernel_rfl) (σ := fun _ => undef) w Ev.gnil Ev.hnil
  obtain ⟨f0, f1, hacts⟩ := Arc.ac2_of s1
  exact Arc.lown29 hacts HKN

set_option maxRecDepth 100000 in
theorem lifted (os : Os) (started : os.Started) (H : Type) (enc : TypeId × Value → H) :
    ReturnsInHanded {} Try.checked os 12 .any (Rows.arcOwnSpec.pre6 enc Try.prog Try.f12 Rows.arcOwnRow.domain false) (Rows.arcOwnSpec.post enc Try.prog Try.f12 false true false false) := by
  refine returnsInHanded_of_change (C := Try.checked) own started (by kernel_rfl) Try.func12
    (ChangeSpec.witness6 (enc := enc) (C := Try.checked) false ⟨#[], #[.int .i64 0, .slice none 0 0], []⟩ 8 (by kernel_rfl) (by kernel_rfl) (by kernel_rfl) (by kernel_rfl)) ?_
  intro W base args ds gs before hval0 hW hcnd _
  have hval : ∀ (j : Nat) t v, Try.f12.params[j]? = some t → args[j]? = some v → Value.okWide Try.prog W .any base t v := hval0
  have hW' := hW
  obtain ⟨p, q, hA0, hV, rfl, hfz, hnd⟩ := hW
  have hA : DataW.TrodAll enc Try.prog W 0 (fun _ => true) true Try.f12.params.toList args.toList ds p := hA0
  rw [Try.params12] at hA hval
  obtain ⟨v0, vs0, d0, ds0, p0, q0, hargs, rfl, rfl, h0, r0⟩ := trodAll_cons hA
  obtain ⟨v1, vs1, d1, ds1, p1, q1, rfl, rfl, rfl, h1, r1⟩ := trodAll_cons r0
  obtain ⟨rfl, rfl, rfl⟩ := trodAll_nil r1
  obtain rfl : args = #[v0, v1] := by cases args; simp_all
  obtain ⟨rfl, rfl⟩ := trodVars_none hV
  obtain ⟨a0, rfl, rfl, rfl, w0⟩ := open_int (by kernel_rfl : Try.prog.underlying 3 = some (.int .i64)) (hval 0 3 v0 rfl rfl) h0
  have k1 := h1
  have lt1 : ∀ x ∈ p1, x.block < W.heap.size := by obtain ⟨m, hm⟩ := k1; exact DataW.trod_lt m _ _ _ hm
  obtain ⟨a1, l1, c1, rfl⟩ := okWide_slice (by kernel_rfl : Try.prog.underlying 92 = some (.slice 108)) (hval 1 92 v1 rfl rfl)
  have s1 : (a1 = none ∧ l1 = 0) ∨ ∃ x, a1 = some x ∧ l1 ≤ c1 ∧ c1 ≤ maxLen ∧ ∀ i, i < l1 → ∃ (z0 : Int) (z1 : Int), W.cell? (x.add (i * 2 + 0)) = some (.int .i64 z0) ∧ W.cell? (x.add (i * 2 + 1)) = some (.int .u32 z1) ∧ (Lit.int .i64 z0).wf = true ∧ (Lit.int .u32 z1).wf = true := by
    rcases Ev.rows_of (by kernel_rfl : Try.prog.underlying 92 = some (.slice 108)) k1 with h | ⟨x, hx, h1, h2, h3⟩
    · exact .inl h
    · refine .inr ⟨x, hx, h1, h2, fun i hi => ?_⟩
      obtain ⟨cs, d, ps, q0, q1, q2⟩ := h3 i hi
      have hn : Try.prog.cellsOf 108 = 2 := by kernel_rfl
      rw [hn] at q0 q1
      obtain ⟨fu0, y0, g0⟩ := Ev.field_of Try.underlying108 q2 0 rfl
      obtain ⟨z0, e0, w0⟩ := Ev.cell_int (o := 0) (by kernel_rfl : Try.prog.underlying 3 = some (.int .i64)) (by kernel_rfl) g0
      obtain ⟨fu1, y1, g1⟩ := Ev.field_of Try.underlying108 q2 1 rfl
      obtain ⟨z1, e1, w1⟩ := Ev.cell_int (o := 1) (by kernel_rfl : Try.prog.underlying 38 = some (.int .u32)) (by kernel_rfl) g1
      exact ⟨z0, z1, (q1 0 (by omega)).trans e0, (q1 1 (by omega)).trans e1, w0, w1⟩
  clear hA0 hval0
  simp only [List.append_nil] at hW'
  refine (walk a0 a1 l1 c1 w0 W s1).mono fun e W' ⟨he, bel⟩ => ?_
  subst he
  exact ⟨_, rfl, _, _, _, [], _, [], hW', trodAll_mk1 (shut_bool (by kernel_rfl : Try.prog.underlying 4 = some .bool) _), (trodAll_cons_mk (shut_int (by kernel_rfl : Try.prog.underlying 3 = some (.int .i64)) w0) (trodAll_cons_mk (Below.trod laidOut (by kernel_rfl) (of_decide_eq_true (by kernel_rfl)) k1 bel lt1) trodAll_mk0)), rfl, bel.frame _, fun h => by cases h⟩

theorem over : Rows.arcOwnRow.holds Try.pinned (OpenSpec.ofChange Rows.arcOwnSpec) :=
  OpenClaim.holds_of_wide 12 Try.f12 rfl rfl rfl rfl rfl rfl rfl ⟨rfl, rfl, rfl, rfl, rfl⟩ rfl rfl rfl rfl rfl (by kernel_rfl) Try.func12 (by kernel_rfl)
    (of_decide_eq_true (by kernel_rfl)) (by unfold Func.isWrapper; first | (rw [if_pos (by decide +kernel)]; kernel_rfl) | (rw [if_neg (by decide +kernel)]; exact ⟨rfl, rfl⟩))
    (fun os started H enc _ => lifted os started H enc)

theorem proved : Rows.ArcOwnSaid :=
  over
#print axioms proved
end Go.Proofs.Ytggimkfepcgaoaa.arcOwn
