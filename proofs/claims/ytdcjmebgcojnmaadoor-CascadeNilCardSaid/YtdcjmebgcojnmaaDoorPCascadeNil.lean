/-
  CascadeNil, for every input: the law returns true, and its arguments read as before. No condition.
-/
import Derived.Test.YtdcjmebgcojnmaaDoorRows
import Derived.Test.YtdcjmebgcojnmaaDoorTie
import Derived.Test.YtdcjmebgcojnmaaDoorCards
import Derived.Test.YtdcjmebgcojnmaaDoorLow
import Derived.Test.YtdcjmebgcojnmaaDoorEvX
import Derived.Test.YtdcjmebgcojnmaaDoorK20known
import Derived.Test.YtdcjmebgcojnmaaDoorCCascadeNil0
import Derived.Test.YtdcjmebgcojnmaaDoorSl
import Derived.Test.YtdcjmebgcojnmaaDoorLaid
import Derived.WalkKit
import Derived.ChangeSame
import Derived.ChangeVars
import Derived.JoinedOf
import Derived.RowKitTokens
import Derived.LaidLaws
import Derived.Handed
import Derived.SevenTiedAt
import Derived.ProofKit
import Derived.OpenShut
import Derived.ShutString
import Derived.ChangeOld
import Derived.Below
import Derived.Carry
import Derived.WideShapes
namespace Go.Proofs.YtdcjmebgcojnmaaDoor.cascadeNil
open Go.ChangeShapes Go.WideShapes Go.ChangeAt Go.RowKit
open Go.ChangeMaps (open_string shut_string)
set_option linter.unusedVariables false
set_option linter.unusedSimpArgs false

theorem laid_met (os : Os) (args : Array Value) : laidMet Tryd.prog Rows.cascadeNilRow.laid ((Low.laidWorld os).forCall (fun _ _ => 0) ⟨#[], args, []⟩).memory :=
  laidMet_of_run' 8 (by kernel_rfl) (by kernel_rfl)
theorem own : ownKnob Tryd.prog.godebug = none := by kernel_rfl
theorem laidOut : laidOutB Tryd.prog = true := by kernel_rfl

theorem walk (a0_0 : Int) (a0_1 : Int) (a0_2 : Int) (w0_0 : (Lit.int .u32 a0_0).wf = true) (w0_1 : (Lit.int .u64 a0_1).wf = true) (w0_2 : (Lit.int .u64 a0_2).wf = true) (w : World)  (hl : laidMet Tryd.prog Rows.cascadeNilRow.laid w) :
    Calls Tryd.prog 4 #[.agg #[.int .u32 a0_0, .int .u64 a0_1, .int .u64 a0_2]] w fun e w' => e = .returned (.bool true) ∧ Below w.heap.size w w' := by
  refine Ev.eval_case case0 (by kernel_rfl) (fun i => match i with | 0 => .int .u32 a0_0 | 1 => .int .u64 a0_1 | 2 => .int .u64 a0_2 | _ => undef) w (Ev.gcons (Ev.gr_arrB hl 0 "math/bits.deBruijn64tab" 0 .u8 [0, 1, 56, 2, 57, 49, 28, 3, 61, 58, 42, 50, 38, 29, 17, 4, 62, 47, 59, 36, 45, 43, 51, 22, 53, 39, 33, 30, 24, 18, 12, 5, 63, 55, 48, 27, 60, 41, 37, 16, 46, 35, 44, 21, 52, 32, 23, 11, 54, 26, 40, 15, 34, 20, 31, 10, 25, 14, 19, 9, 13, 8, 7, 6] (by kernel_rfl) (by kernel_rfl)) Ev.gnil) (.cons (.agg (.cons (.opq 0 rfl) (.cons (.opq 1 rfl) (.cons (.opq 2 rfl) (.nil))))) (.nil)) ?_
  exact Ev.hcons (Ev.Fact.knownX YtdcjmebgcojnmaaDoorK20known.known (by kernel_rfl) YtdcjmebgcojnmaaDoorK20known.hE) (Ev.hnil)

set_option maxRecDepth 100000 in
theorem lifted (os : Os) (started : os.Started) (H : Type) (enc : TypeId × Value → H) :
    ReturnsInHanded {} Tryd.checked os 4 .any (fun w args => (Rows.cascadeNilSpec.pre enc Tryd.prog Tryd.f4 Rows.cascadeNilRow.domain false w args ∧ laidMet Tryd.prog Rows.cascadeNilRow.laid w) ∧ sizedMet enc Tryd.prog Tryd.f4 (OpenSpec.ofChange Rows.cascadeNilSpec) false w args) (Rows.cascadeNilSpec.post enc Tryd.prog Tryd.f4 false true false false) := by
  refine returnsInHanded_of_change_and (C := Tryd.checked) (X := fun w _ => laidMet Tryd.prog Rows.cascadeNilRow.laid w) (fun _ _ _ hh h => h.of_heap hh) own started (by kernel_rfl) Tryd.func4
    (ChangeSpec.witness_at (enc := enc) (C := Tryd.checked) (os := os) (X := fun w _ => laidMet Tryd.prog Rows.cascadeNilRow.laid w) false (Low.laidWorld os) #[.agg #[.int .u32 0, .int .u64 0, .int .u64 0]] 8 rfl (by kernel_rfl) (by kernel_rfl) (by kernel_rfl) (by kernel_rfl) (by kernel_rfl) (laid_met os _)) ?_
  intro W base args ds gs before hval0 hW hcnd _ hL _
  have hval : ∀ (j : Nat) t v, Tryd.f4.params[j]? = some t → args[j]? = some v → Value.okWide Tryd.prog W .any base t v := hval0
  have hW' := hW
  obtain ⟨p, q, hA0, hV, rfl, hfz, hnd⟩ := hW
  have hA : DataW.TrodAll enc Tryd.prog W 0 (fun _ => true) true Tryd.f4.params.toList args.toList ds p := hA0
  rw [Tryd.params4] at hA hval
  obtain ⟨v0, vs0, d0, ds0, p0, q0, hargs, rfl, rfl, h0, r0⟩ := trodAll_cons hA
  obtain ⟨rfl, rfl, rfl⟩ := trodAll_nil r0
  obtain rfl : args = #[v0] := by cases args; simp_all
  obtain ⟨rfl, rfl⟩ := trodVars_none hV
  have k0 := h0
  have lt0 : ∀ x ∈ p0, x.block < W.heap.size := by obtain ⟨m, hm⟩ := k0; exact DataW.trod_lt m _ _ _ hm
  obtain ⟨cs0, rfl, hs0⟩ := okWide_struct Tryd.underlying43 (hval 0 43 v0 rfl rfl)
  obtain ⟨fu0_0, x0_0, f0_0⟩ := Ev.field_of Tryd.underlying43 h0 0 rfl
  obtain ⟨a0_0, e0_0, w0_0⟩ := Ev.cell_int (o := 0) (by kernel_rfl : Tryd.prog.underlying 22 = some (.int .u32)) (by kernel_rfl) f0_0
  obtain ⟨fu0_1, x0_1, f0_1⟩ := Ev.field_of Tryd.underlying43 h0 1 rfl
  obtain ⟨a0_1, e0_1, w0_1⟩ := Ev.cell_int (o := 1) (by kernel_rfl : Tryd.prog.underlying 41 = some (.int .u64)) (by kernel_rfl) f0_1
  obtain ⟨fu0_2, x0_2, f0_2⟩ := Ev.field_of Tryd.underlying43 h0 2 rfl
  obtain ⟨a0_2, e0_2, w0_2⟩ := Ev.cell_int (o := 2) (by kernel_rfl : Tryd.prog.underlying 25 = some (.int .u64)) (by kernel_rfl) f0_2
  obtain rfl : cs0 = #[.int .u32 a0_0, .int .u64 a0_1, .int .u64 a0_2] := Ev.cells_eq [.int .u32 a0_0, .int .u64 a0_1, .int .u64 a0_2] (hs0.trans (by kernel_rfl)) fun j v hj => match j, hj with
    | 0, hj => by cases hj; exact e0_0
    | 1, hj => by cases hj; exact e0_1
    | 2, hj => by cases hj; exact e0_2
    | j + 3, hj => by cases hj
  clear hA0 hval0
  simp only [List.append_nil] at hW'
  refine (walk a0_0 a0_1 a0_2 w0_0 w0_1 w0_2 W hL).mono fun e W' ⟨he, bel⟩ => ?_
  subst he
  exact ⟨_, rfl, _, _, _, [], _, [], hW', trodAll_mk1 (shut_bool (by kernel_rfl : Tryd.prog.underlying 4 = some .bool) _), (trodAll_cons_mk (Below.trod laidOut (by kernel_rfl) (of_decide_eq_true (by kernel_rfl)) k0 bel lt0) trodAll_mk0), rfl, bel.frame _, fun h => by cases h⟩

theorem over : Rows.cascadeNilRow.holds Tryd.pinned (OpenSpec.ofChange Rows.cascadeNilSpec) :=
  OpenClaim.holds_of_wide 4 Tryd.f4 rfl rfl rfl rfl rfl rfl rfl ⟨rfl, rfl, rfl, rfl, rfl⟩ rfl rfl rfl rfl rfl (by kernel_rfl) Tryd.func4 (by kernel_rfl)
    (of_decide_eq_true (by kernel_rfl)) (by unfold Func.isWrapper; first | (rw [if_pos (by decide +kernel)]; kernel_rfl) | (rw [if_neg (by decide +kernel)]; exact ⟨rfl, rfl⟩))
    (fun os started H enc _ => lifted os started H enc)

theorem proved : Rows.CascadeNilCardSaid :=
  Claim7.holds_tied_plain_at .later [] [.data] true (true, "45258f569f27e61ca8f270cd3194a2ce729651667c36712c2f0498126a048f59") true
    over (fun _ h => by cases h) (by kernel_rfl) (fun _ h => by cases h) cascadeNil_row_tie rfl ⟨rfl, rfl⟩ (by kernel_rfl) rfl
    (fun f fn hf hfn => by
      obtain rfl : f = 4 := Option.some.inj ((show Tryd.prog.funcNamed "cubbyhole/cubbyholelaw20.CascadeNil" = some 4 by kernel_rfl).symm.trans hf) |>.symm
      obtain rfl : fn = Tryd.f4 := (Option.some.inj (Tryd.func4.symm.trans hfn)).symm
      exact ⟨by kernel_rfl, fun j t ht => Ev.standIns (ps := Tryd.f4.params) (f := Tryd.prog.wantsStandIn) (by kernel_rfl) ht⟩)
    (by kernel_rfl)
#print axioms proved
end Go.Proofs.YtdcjmebgcojnmaaDoor.cascadeNil
