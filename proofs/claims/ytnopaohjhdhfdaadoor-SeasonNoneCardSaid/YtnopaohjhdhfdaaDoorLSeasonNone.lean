/-
  SeasonNone, for every input: the law returns true, and its arguments read as before. No condition.
-/
import Derived.Test.YtnopaohjhdhfdaaDoorRows
import Derived.Test.YtnopaohjhdhfdaaDoorTie
import Derived.Test.YtnopaohjhdhfdaaDoorCards
import Derived.Test.YtnopaohjhdhfdaaDoorLow
import Derived.Test.YtnopaohjhdhfdaaDoorEvX
import Derived.Test.YtnopaohjhdhfdaaDoorK50known
import Derived.Test.YtnopaohjhdhfdaaDoorCSeasonNone0
import Derived.Test.YtnopaohjhdhfdaaDoorSl
import Derived.Test.YtnopaohjhdhfdaaDoorLaid
import Derived.WalkKit
import Derived.ChangeSame
import Derived.ChangeVars
import Derived.JoinedOf
import Derived.RowKitTokens
import Derived.LaidLaws
import Derived.Handed
import Derived.SevenTiedAt
import Derived.ProofKit
import Derived.OpenShut
import Derived.ShutString
import Derived.ChangeOld
import Derived.Below
import Derived.Carry
import Derived.WideShapes
namespace Go.Proofs.YtnopaohjhdhfdaaDoor.seasonNone
open Go.ChangeShapes Go.WideShapes Go.ChangeAt Go.RowKit
open Go.ChangeMaps (open_string shut_string)
set_option linter.unusedVariables false
set_option linter.unusedSimpArgs false

theorem laid_met (os : Os) (args : Array Value) : laidMet Tryd.prog Rows.seasonNoneRow.laid ((Low.laidWorld os).forCall (fun _ _ => 0) ⟨#[], args, []⟩).memory :=
  laidMet_of_run' 8 (by kernel_rfl) (by kernel_rfl)
theorem own : ownKnob Tryd.prog.godebug = none := by kernel_rfl
theorem laidOut : laidOutB Tryd.prog = true := by kernel_rfl

theorem walk (a0_0 : Int) (a0_1 : Int) (a0_2 : Int) (a0_3 : Int) (a0_4 : Int) (a0_5 : Int) (a0_6 : Int) (a0_7 : Int) (w0_0 : (Lit.int .i64 a0_0).wf = true) (w0_1 : (Lit.int .i64 a0_1).wf = true) (w0_2 : (Lit.int .i64 a0_2).wf = true) (w0_3 : (Lit.int .u64 a0_3).wf = true) (w0_4 : (Lit.int .i64 a0_4).wf = true) (w0_5 : (Lit.int .i64 a0_5).wf = true) (w0_6 : (Lit.int .i64 a0_6).wf = true) (w0_7 : (Lit.int .i64 a0_7).wf = true) (w : World)   (hl : laidMet Tryd.prog Rows.seasonNoneRow.laid w) :
    Calls Tryd.prog 3 #[.agg #[.int .i64 a0_0, .int .i64 a0_1, .int .i64 a0_2, .int .u64 a0_3, .int .i64 a0_4, .int .i64 a0_5, .int .i64 a0_6, .int .i64 a0_7]] w fun e w' => e = .returned (.bool true) ∧ Below w.heap.size w w' := by
  obtain ⟨v902, o902, k902⟩ := Ev.gr_anyB hl 4 "strconv.ErrRange" 2 (by kernel_rfl) (by kernel_rfl)
  obtain ⟨v901, o901, k901⟩ := Ev.gr_anyB hl 5 "strconv.ErrSyntax" 1 (by kernel_rfl) (by kernel_rfl)
  refine Ev.eval_case case0 (by kernel_rfl) (fun i => match i with | 0 => .int .i64 a0_0 | 1 => .int .i64 a0_1 | 2 => .int .i64 a0_2 | 3 => .int .u64 a0_3 | 4 => .int .i64 a0_4 | 5 => .int .i64 a0_5 | 6 => .int .i64 a0_6 | 7 => .int .i64 a0_7 | 902 => v902 | 901 => v901 | _ => undef) w (Ev.gcons (Ev.gr_arrB hl 0 "math/bits.deBruijn32tab" 6 .u8 [0, 1, 28, 2, 29, 14, 24, 3, 30, 22, 20, 15, 25, 17, 4, 8, 31, 27, 13, 23, 21, 19, 16, 7, 26, 12, 18, 6, 11, 5, 10, 9] (by kernel_rfl) (by kernel_rfl)) (Ev.gcons (Ev.gr_arrB hl 1 "math/bits.deBruijn64tab" 7 .u8 [0, 1, 56, 2, 57, 49, 28, 3, 61, 58, 42, 50, 38, 29, 17, 4, 62, 47, 59, 36, 45, 43, 51, 22, 53, 39, 33, 30, 24, 18, 12, 5, 63, 55, 48, 27, 60, 41, 37, 16, 46, 35, 44, 21, 52, 32, 23, 11, 54, 26, 40, 15, 34, 20, 31, 10, 25, 14, 19, 9, 13, 8, 7, 6] (by kernel_rfl) (by kernel_rfl)) (Ev.gcons (Ev.gr_arrB hl 2 "internal/strconv.uint64pow10" 3 .u64 [1, 10, 100, 1000, 10000, 100000, 1000000, 10000000, 100000000, 1000000000, 10000000000, 100000000000, 1000000000000, 10000000000000, 100000000000000, 1000000000000000, 10000000000000000, 100000000000000000, 1000000000000000000, 10000000000000000000] (by kernel_rfl) (by kernel_rfl)) (Ev.gcons (k902 _ 902 rfl) (Ev.gcons (k901 _ 901 rfl) Ev.gnil))))) (.cons (.agg (.cons (.opq 0 rfl) (.cons (.opq 1 rfl) (.cons (.opq 2 rfl) (.cons (.opq 3 rfl) (.cons (.opq 4 rfl) (.cons (.opq 5 rfl) (.cons (.opq 6 rfl) (.cons (.opq 7 rfl) (.nil)))))))))) (.nil)) ?_
  exact Ev.hcons (Ev.Fact.knownX YtnopaohjhdhfdaaDoorK50known.known (by kernel_rfl) YtnopaohjhdhfdaaDoorK50known.hE) (Ev.hcons (Ev.Fact.extI (by kernel_rfl)) (Ev.hcons (Ev.Fact.extI (by kernel_rfl)) (Ev.hnil)))

set_option maxRecDepth 100000 in
theorem lifted (os : Os) (started : os.Started) (H : Type) (enc : TypeId × Value → H) :
    ReturnsInHanded {} Tryd.checked os 3 .any (fun w args => (Rows.seasonNoneSpec.pre enc Tryd.prog Tryd.f3 Rows.seasonNoneRow.domain false w args ∧ laidMet Tryd.prog Rows.seasonNoneRow.laid w) ∧ sizedMet enc Tryd.prog Tryd.f3 (OpenSpec.ofChange Rows.seasonNoneSpec) false w args) (Rows.seasonNoneSpec.post enc Tryd.prog Tryd.f3 false true false false) := by
  refine returnsInHanded_of_change_and (C := Tryd.checked) (X := fun w _ => laidMet Tryd.prog Rows.seasonNoneRow.laid w) (fun _ _ _ hh h => h.of_heap hh) own started (by kernel_rfl) Tryd.func3
    (ChangeSpec.witness_at (enc := enc) (C := Tryd.checked) (os := os) (X := fun w _ => laidMet Tryd.prog Rows.seasonNoneRow.laid w) false (Low.laidWorld os) #[.agg #[.int .i64 0, .int .i64 0, .int .i64 0, .int .u64 0, .int .i64 0, .int .i64 0, .int .i64 0, .int .i64 0]] 8 rfl (by kernel_rfl) (by kernel_rfl) (by kernel_rfl) (by kernel_rfl) (by kernel_rfl) (laid_met os _)) ?_
  intro W base args ds gs before hval0 hW hcnd _ hL _
  have hval : ∀ (j : Nat) t v, Tryd.f3.params[j]? = some t → args[j]? = some v → Value.okWide Tryd.prog W .any base t v := hval0
  have hW' := hW
  obtain ⟨p, q, hA0, hV, rfl, hfz, hnd⟩ := hW
  have hA : DataW.TrodAll enc Tryd.prog W 0 (fun _ => true) true Tryd.f3.params.toList args.toList ds p := hA0
  rw [Tryd.params3] at hA hval
  obtain ⟨v0, vs0, d0, ds0, p0, q0, hargs, rfl, rfl, h0, r0⟩ := trodAll_cons hA
  obtain ⟨rfl, rfl, rfl⟩ := trodAll_nil r0
  obtain rfl : args = #[v0] := by cases args; simp_all
  obtain ⟨rfl, rfl⟩ := trodVars_none hV
  have k0 := h0
  have lt0 : ∀ x ∈ p0, x.block < W.heap.size := by obtain ⟨m, hm⟩ := k0; exact DataW.trod_lt m _ _ _ hm
  obtain ⟨cs0, rfl, hs0⟩ := okWide_struct Tryd.underlying26 (hval 0 26 v0 rfl rfl)
  obtain ⟨fu0_0, x0_0, f0_0⟩ := Ev.field_of Tryd.underlying26 h0 0 rfl
  obtain ⟨a0_0, e0_0, w0_0⟩ := Ev.cell_int (o := 0) (by kernel_rfl : Tryd.prog.underlying 3 = some (.int .i64)) (by kernel_rfl) f0_0
  obtain ⟨fu0_1, x0_1, f0_1⟩ := Ev.field_of Tryd.underlying26 h0 1 rfl
  obtain ⟨a0_1, e0_1, w0_1⟩ := Ev.cell_int (o := 1) (by kernel_rfl : Tryd.prog.underlying 3 = some (.int .i64)) (by kernel_rfl) f0_1
  obtain ⟨fu0_2, x0_2, f0_2⟩ := Ev.field_of Tryd.underlying26 h0 2 rfl
  obtain ⟨a0_2, e0_2, w0_2⟩ := Ev.cell_int (o := 2) (by kernel_rfl : Tryd.prog.underlying 3 = some (.int .i64)) (by kernel_rfl) f0_2
  obtain ⟨fu0_3, x0_3, f0_3⟩ := Ev.field_of Tryd.underlying26 h0 3 rfl
  obtain ⟨a0_3, e0_3, w0_3⟩ := Ev.cell_int (o := 3) (by kernel_rfl : Tryd.prog.underlying 23 = some (.int .u64)) (by kernel_rfl) f0_3
  obtain ⟨fu0_4, x0_4, f0_4⟩ := Ev.field_of Tryd.underlying26 h0 4 rfl
  obtain ⟨gu0_4, gx0_4, gf0_4⟩ := Ev.elem_of (o := 4) (by kernel_rfl : Tryd.prog.underlying 24 = some (.array 4 3)) (by kernel_rfl) (by kernel_rfl) f0_4 0 (by decide)
  obtain ⟨a0_4, e0_4, w0_4⟩ := Ev.cell_int (o := 4) (by kernel_rfl : Tryd.prog.underlying 3 = some (.int .i64)) (by kernel_rfl) gf0_4
  obtain ⟨gu0_5, gx0_5, gf0_5⟩ := Ev.elem_of (o := 4) (by kernel_rfl : Tryd.prog.underlying 24 = some (.array 4 3)) (by kernel_rfl) (by kernel_rfl) f0_4 1 (by decide)
  obtain ⟨a0_5, e0_5, w0_5⟩ := Ev.cell_int (o := 5) (by kernel_rfl : Tryd.prog.underlying 3 = some (.int .i64)) (by kernel_rfl) gf0_5
  obtain ⟨gu0_6, gx0_6, gf0_6⟩ := Ev.elem_of (o := 4) (by kernel_rfl : Tryd.prog.underlying 24 = some (.array 4 3)) (by kernel_rfl) (by kernel_rfl) f0_4 2 (by decide)
  obtain ⟨a0_6, e0_6, w0_6⟩ := Ev.cell_int (o := 6) (by kernel_rfl : Tryd.prog.underlying 3 = some (.int .i64)) (by kernel_rfl) gf0_6
  obtain ⟨gu0_7, gx0_7, gf0_7⟩ := Ev.elem_of (o := 4) (by kernel_rfl : Tryd.prog.underlying 24 = some (.array 4 3)) (by kernel_rfl) (by kernel_rfl) f0_4 3 (by decide)
  obtain ⟨a0_7, e0_7, w0_7⟩ := Ev.cell_int (o := 7) (by kernel_rfl : Tryd.prog.underlying 3 = some (.int .i64)) (by kernel_rfl) gf0_7
  obtain rfl : cs0 = #[.int .i64 a0_0, .int .i64 a0_1, .int .i64 a0_2, .int .u64 a0_3, .int .i64 a0_4, .int .i64 a0_5, .int .i64 a0_6, .int .i64 a0_7] := Ev.cells_eq [.int .i64 a0_0, .int .i64 a0_1, .int .i64 a0_2, .int .u64 a0_3, .int .i64 a0_4, .int .i64 a0_5, .int .i64 a0_6, .int .i64 a0_7] (hs0.trans (by kernel_rfl)) fun j v hj => match j, hj with
    | 0, hj => by cases hj; exact e0_0
    | 1, hj => by cases hj; exact e0_1
    | 2, hj => by cases hj; exact e0_2
    | 3, hj => by cases hj; exact e0_3
    | 4, hj => by cases hj; exact e0_4
    | 5, hj => by cases hj; exact e0_5
    | 6, hj => by cases hj; exact e0_6
    | 7, hj => by cases hj; exact e0_7
    | j + 8, hj => by cases hj
  clear hA0 hval0
  simp only [List.append_nil] at hW'
  refine (walk a0_0 a0_1 a0_2 a0_3 a0_4 a0_5 a0_6 a0_7 w0_0 w0_1 w0_2 w0_3 w0_4 w0_5 w0_6 w0_7 W hL).mono fun e W' ⟨he, bel⟩ => ?_
  subst he
  exact ⟨_, rfl, _, _, _, [], _, [], hW', trodAll_mk1 (shut_bool (by kernel_rfl : Tryd.prog.underlying 4 = some .bool) _), (trodAll_cons_mk (Below.trod laidOut (by kernel_rfl) (of_decide_eq_true (by kernel_rfl)) k0 bel lt0) trodAll_mk0), rfl, bel.frame _, fun h => by cases h⟩
end Go.Proofs.YtnopaohjhdhfdaaDoor.seasonNone
