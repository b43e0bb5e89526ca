/-
  ConfigSpoils, for every input: the law returns true, and its arguments read as before. No condition.
-/
import Derived.Test.YtckibgpmncggaaaDoorRows
import Derived.Test.YtckibgpmncggaaaDoorTie
import Derived.Test.YtckibgpmncggaaaDoorCards
import Derived.Test.YtckibgpmncggaaaDoorLow
import Derived.Test.YtckibgpmncggaaaDoorEvX
import Derived.Test.YtckibgpmncggaaaDoorCfgQ
import Derived.Test.YtckibgpmncggaaaDoorSl
import Derived.Test.YtckibgpmncggaaaDoorLaid
import Derived.WalkKit
import Derived.ChangeSame
import Derived.ChangeVars
import Derived.JoinedOf
import Derived.RowKitTokens
import Derived.LaidLaws
import Derived.Handed
import Derived.SevenTiedAt
import Derived.ProofKit
import Derived.OpenShut
import Derived.ShutString
import Derived.ChangeOld
import Derived.Below
import Derived.Carry
import Derived.WideShapes
namespace Go.Proofs.YtckibgpmncggaaaDoor.configSpoils
open Go.ChangeShapes Go.WideShapes Go.ChangeAt Go.RowKit
open Go.ChangeMaps (open_string shut_string)
set_option linter.unusedVariables false
set_option linter.unusedSimpArgs false

theorem laid_met (os : Os) (args : Array Value) : laidMet Tryd.prog Rows.configSpoilsRow.laid ((Low.laidWorld os).forCall (fun _ _ => 0) ⟨#[], args, []⟩).memory :=
  laidMet_of_run' 8 (by kernel_rfl) (by kernel_rfl)
theorem own : ownKnob Tryd.prog.godebug = none := by kernel_rfl
theorem laidOut : laidOutB Tryd.prog = true := by kernel_rfl

theorem walk (a0_0 : Int) (a0_1 : Int) (a0_2 : Int) (a0_3 : Int) (a0_4 : Bool) (a1 : Int) (a2 : Int) (w0_0 : (Lit.int .i64 a0_0).wf = true) (w0_1 : (Lit.int .i64 a0_1).wf = true) (w0_2 : (Lit.int .i64 a0_2).wf = true) (w0_3 : (Lit.int .u64 a0_3).wf = true) (w1 : (Lit.int .u8 a1).wf = true) (w2 : (Lit.int .u8 a2).wf = true) (w : World)   (hl : laidMet Tryd.prog Rows.configSpoilsRow.laid w) (hsh : w.ShapedOpen Tryd.prog) :
    Calls Tryd.prog 6 #[.agg #[.int .i64 a0_0, .int .i64 a0_1, .int .i64 a0_2, .int .u64 a0_3, .bool a0_4], .int .u8 a1, .int .u8 a2] w fun e w' => e = .returned (.bool true) ∧ Below w.heap.size w w' := by
  have b3 := Ev.wf_u64 w0_3
  have b4 := bounds_u8 w1
  have b5 := bounds_u8 w2
  exact Cfg.spoils_law a0_0 a0_1 a0_2 a0_3 a0_4 a1 a2 b3.1 (by omega) b4.1 (by omega) b5.1 (by omega) w (Cfg.vars_of hl hsh rfl rfl rfl rfl)

set_option maxRecDepth 100000 in
theorem lifted (os : Os) (started : os.Started) (H : Type) (enc : TypeId × Value → H) :
    ReturnsInHanded {} Tryd.checked os 6 .any (fun w args => (Rows.configSpoilsSpec.pre enc Tryd.prog Tryd.f6 Rows.configSpoilsRow.domain false w args ∧ laidMet Tryd.prog Rows.configSpoilsRow.laid w) ∧ sizedMet enc Tryd.prog Tryd.f6 (OpenSpec.ofChange Rows.configSpoilsSpec) false w args) (Rows.configSpoilsSpec.post enc Tryd.prog Tryd.f6 false true false false) := by
  refine Ev.returnsInHanded_and_shaped (C := Tryd.checked) (X := fun w _ => laidMet Tryd.prog Rows.configSpoilsRow.laid w) (fun _ _ _ hh h => h.of_heap hh) own started (by kernel_rfl) Tryd.func6
    (ChangeSpec.witness_at (enc := enc) (C := Tryd.checked) (os := os) (X := fun w _ => laidMet Tryd.prog Rows.configSpoilsRow.laid w) false (Low.laidWorld os) #[.agg #[.int .i64 0, .int .i64 0, .int .i64 0, .int .u64 0, .bool false], .int .u8 0, .int .u8 0] 8 rfl (by kernel_rfl) (by kernel_rfl) (by kernel_rfl) (by kernel_rfl) (by kernel_rfl) (laid_met os _)) ?_
  intro W base args ds gs before hval0 hW hcnd _ hL hSh _
  have hval : ∀ (j : Nat) t v, Tryd.f6.params[j]? = some t → args[j]? = some v → Value.okWide Tryd.prog W .any base t v := hval0
  have hW' := hW
  obtain ⟨p, q, hA0, hV, rfl, hfz, hnd⟩ := hW
  have hA : DataW.TrodAll enc Tryd.prog W 0 (fun _ => true) true Tryd.f6.params.toList args.toList ds p := hA0
  rw [Tryd.params6] at hA hval
  obtain ⟨v0, vs0, d0, ds0, p0, q0, hargs, rfl, rfl, h0, r0⟩ := trodAll_cons hA
  obtain ⟨v1, vs1, d1, ds1, p1, q1, rfl, rfl, rfl, h1, r1⟩ := trodAll_cons r0
  obtain ⟨v2, vs2, d2, ds2, p2, q2, rfl, rfl, rfl, h2, r2⟩ := trodAll_cons r1
  obtain ⟨rfl, rfl, rfl⟩ := trodAll_nil r2
  obtain rfl : args = #[v0, v1, v2] := by cases args; simp_all
  obtain ⟨rfl, rfl⟩ := trodVars_none hV
  have k0 := h0
  have lt0 : ∀ x ∈ p0, x.block < W.heap.size := by obtain ⟨m, hm⟩ := k0; exact DataW.trod_lt m _ _ _ hm
  obtain ⟨cs0, rfl, hs0⟩ := okWide_struct Tryd.underlying32 (hval 0 32 v0 rfl rfl)
  obtain ⟨fu0_0, x0_0, f0_0⟩ := Ev.field_of Tryd.underlying32 h0 0 rfl
  obtain ⟨a0_0, e0_0, w0_0⟩ := Ev.cell_int (o := 0) (by kernel_rfl : Tryd.prog.underlying 3 = some (.int .i64)) (by kernel_rfl) f0_0
  obtain ⟨fu0_1, x0_1, f0_1⟩ := Ev.field_of Tryd.underlying32 h0 1 rfl
  obtain ⟨a0_1, e0_1, w0_1⟩ := Ev.cell_int (o := 1) (by kernel_rfl : Tryd.prog.underlying 3 = some (.int .i64)) (by kernel_rfl) f0_1
  obtain ⟨fu0_2, x0_2, f0_2⟩ := Ev.field_of Tryd.underlying32 h0 2 rfl
  obtain ⟨a0_2, e0_2, w0_2⟩ := Ev.cell_int (o := 2) (by kernel_rfl : Tryd.prog.underlying 3 = some (.int .i64)) (by kernel_rfl) f0_2
  obtain ⟨fu0_3, x0_3, f0_3⟩ := Ev.field_of Tryd.underlying32 h0 3 rfl
  obtain ⟨a0_3, e0_3, w0_3⟩ := Ev.cell_int (o := 3) (by kernel_rfl : Tryd.prog.underlying 22 = some (.int .u64)) (by kernel_rfl) f0_3
  obtain ⟨fu0_4, x0_4, f0_4⟩ := Ev.field_of Tryd.underlying32 h0 4 rfl
  obtain ⟨a0_4, e0_4⟩ := Ev.cell_bool (o := 4) (by kernel_rfl : Tryd.prog.underlying 4 = some (.bool)) (by kernel_rfl) f0_4
  obtain rfl : cs0 = #[.int .i64 a0_0, .int .i64 a0_1, .int .i64 a0_2, .int .u64 a0_3, .bool a0_4] := Ev.cells_eq [.int .i64 a0_0, .int .i64 a0_1, .int .i64 a0_2, .int .u64 a0_3, .bool a0_4] (hs0.trans (by kernel_rfl)) fun j v hj => match j, hj with
    | 0, hj => by cases hj; exact e0_0
    | 1, hj => by cases hj; exact e0_1
    | 2, hj => by cases hj; exact e0_2
    | 3, hj => by cases hj; exact e0_3
    | 4, hj => by cases hj; exact e0_4
    | j + 5, hj => by cases hj
  obtain ⟨a1, rfl, rfl, rfl, w1⟩ := open_int (by kernel_rfl : Tryd.prog.underlying 5 = some (.int .u8)) (hval 1 5 v1 rfl rfl) h1
  obtain ⟨a2, rfl, rfl, rfl, w2⟩ := open_int (by kernel_rfl : Tryd.prog.underlying 5 = some (.int .u8)) (hval 2 5 v2 rfl rfl) h2
  clear hA0 hval0
  simp only [List.append_nil] at hW'
  refine (walk a0_0 a0_1 a0_2 a0_3 a0_4 a1 a2 w0_0 w0_1 w0_2 w0_3 w1 w2 W hL hSh).mono fun e W' ⟨he, bel⟩ => ?_
  subst he
  exact ⟨_, rfl, _, _, _, [], _, [], hW', trodAll_mk1 (shut_bool (by kernel_rfl : Tryd.prog.underlying 4 = some .bool) _), (trodAll_cons_mk (Below.trod laidOut (by kernel_rfl) (of_decide_eq_true (by kernel_rfl)) k0 bel lt0) (trodAll_cons_mk (shut_int (by kernel_rfl : Tryd.prog.underlying 5 = some (.int .u8)) w1) (trodAll_cons_mk (shut_int (by kernel_rfl : Tryd.prog.underlying 5 = some (.int .u8)) w2) trodAll_mk0))), rfl, bel.frame _, fun h => by cases h⟩

theorem over : Rows.configSpoilsRow.holds Tryd.pinned (OpenSpec.ofChange Rows.configSpoilsSpec) :=
  OpenClaim.holds_of_wide 6 Tryd.f6 rfl rfl rfl rfl rfl rfl rfl ⟨rfl, rfl, rfl, rfl, rfl⟩ rfl rfl rfl rfl rfl (by kernel_rfl) Tryd.func6 (by kernel_rfl)
    (of_decide_eq_true (by kernel_rfl)) (by unfold Func.isWrapper; first | (rw [if_pos (by decide +kernel)]; kernel_rfl) | (rw [if_neg (by decide +kernel)]; exact ⟨rfl, rfl⟩))
    (fun os started H enc _ => lifted os started H enc)

theorem proved : Rows.ConfigSpoilsCardSaid :=
  Claim7.holds_tied_plain_at .later [] [.data, .data, .data, .sentinel, .sentinel, .data] true (true, "a2c0f7c076f4c9dc4f0c1faeb5830b7913eac3c764ab67b068d79679f231c870") true
    over (fun _ h => by cases h) (by kernel_rfl) (fun _ h => by cases h) configSpoils_row_tie rfl ⟨rfl, rfl⟩ (by kernel_rfl) rfl
    (fun f fn hf hfn => by
      obtain rfl : f = 6 := Option.some.inj ((show Tryd.prog.funcNamed "cubbyhole/cubbyholelaw23.ConfigSpoils" = some 6 by kernel_rfl).symm.trans hf) |>.symm
      obtain rfl : fn = Tryd.f6 := (Option.some.inj (Tryd.func6.symm.trans hfn)).symm
      exact ⟨by kernel_rfl, fun j t ht => Ev.standIns (ps := Tryd.f6.params) (f := Tryd.prog.wantsStandIn) (by kernel_rfl) ht⟩)
    (by kernel_rfl)
#print axioms proved
end Go.Proofs.YtckibgpmncggaaaDoor.configSpoils
