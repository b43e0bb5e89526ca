/-
  EntryHolds, for every input: the law returns true, and its arguments read as before. No condition.
-/
import Derived.Test.YtlpepmhpnmnpkaaDoorRows
import Derived.Test.YtlpepmhpnmnpkaaDoorTie
import Derived.Test.YtlpepmhpnmnpkaaDoorCards
import Derived.Test.YtlpepmhpnmnpkaaDoorLow
import Derived.Test.YtlpepmhpnmnpkaaDoorEvX
import Derived.Test.YtlpepmhpnmnpkaaDoorLaid
import Derived.Test.YtlpepmhpnmnpkaaDoorEnpL
import Derived.Test.YtlpepmhpnmnpkaaDoorK04known
import Derived.Test.YtlpepmhpnmnpkaaDoorSl
import Derived.Test.YtlpepmhpnmnpkaaDoorByt
import Derived.Test.YtlpepmhpnmnpkaaDoorLaid
import Derived.WalkKit
import Derived.ChangeSame
import Derived.ChangeVars
import Derived.JoinedOf
import Derived.RowKitTokens
import Derived.LaidLaws
import Derived.Handed
import Derived.SevenTiedAt
import Derived.ProofKit
import Derived.OpenShut
import Derived.ShutString
import Derived.ChangeOld
import Derived.Below
import Derived.Carry
import Derived.WideShapes
namespace Go.Proofs.YtlpepmhpnmnpkaaDoor.entryHolds
open Go.ChangeShapes Go.WideShapes Go.ChangeAt Go.RowKit
open Go.ChangeMaps (open_string shut_string)
set_option linter.unusedVariables false
set_option linter.unusedSimpArgs false

theorem laid_met (os : Os) (args : Array Value) : laidMet Tryd.prog Rows.entryHoldsRow.laid ((Low.laidWorld os).forCall (fun _ _ => 0) ⟨#[], args, []⟩).memory :=
  laidMet_of_run' 8 (by kernel_rfl) (by kernel_rfl)
theorem own : ownKnob Tryd.prog.godebug = none := by kernel_rfl
theorem laidOut : laidOutB Tryd.prog = true := by kernel_rfl

theorem walk (a0_0 : ByteArray) (a0_1 : Option Addr) (l0_1 c0_1 : Nat) (a0_2 : Int) (a0_3 : Int) (a1_0 : ByteArray) (a1_1 : Option Addr) (l1_1 c1_1 : Nat) (a1_2 : Int) (a1_3 : Int) (a2_0 : ByteArray) (a2_1 : Option Addr) (l2_1 c2_1 : Nat) (a2_2 : Int) (a2_3 : Int) (w0_0 : a0_0.size ≤ maxLen) (w0_2 : (Lit.int .u64 a0_2).wf = true) (w0_3 : (Lit.int .u64 a0_3).wf = true) (w1_0 : a1_0.size ≤ maxLen) (w1_2 : (Lit.int .u64 a1_2).wf = true) (w1_3 : (Lit.int .u64 a1_3).wf = true) (w2_0 : a2_0.size ≤ maxLen) (w2_2 : (Lit.int .u64 a2_2).wf = true) (w2_3 : (Lit.int .u64 a2_3).wf = true) (w : World)   (z0_1 : List Int) (s0_1 : Ev.BytesOf w a0_1 l0_1 z0_1) (z1_1 : List Int) (s1_1 : Ev.BytesOf w a1_1 l1_1 z1_1) (z2_1 : List Int) (s2_1 : Ev.BytesOf w a2_1 l2_1 z2_1) (hl : laidMet Tryd.prog Rows.entryHoldsRow.laid w) (hsh : w.ShapedOpen Tryd.prog) :
    Calls Tryd.prog 8 #[.agg #[.string a0_0, .slice a0_1 l0_1 c0_1, .int .u64 a0_2, .int .u64 a0_3], .agg #[.string a1_0, .slice a1_1 l1_1 c1_1, .int .u64 a1_2, .int .u64 a1_3], .agg #[.string a2_0, .slice a2_1 l2_1 c2_1, .int .u64 a2_2, .int .u64 a2_3]] w fun e w' => e = .returned (.bool true) ∧ Below w.heap.size w w' := by
  obtain ⟨v904, o904, k904⟩ := Ev.gr_anyB hl 3 "strconv.ErrRange" 4 (by kernel_rfl) (by kernel_rfl)
  obtain ⟨v903, o903, k903⟩ := Ev.gr_anyB hl 4 "strconv.ErrSyntax" 3 (by kernel_rfl) (by kernel_rfl)
  have HKN := Ev.known_later YtlpepmhpnmnpkaaDoorK04known.known (by kernel_rfl) (σ := fun i => match i with | 904 => v904 | 903 => v903 | _ => undef) w (Ev.gcons (Ev.gr_arrB hl 0 "math/bits.deBruijn32tab" 5 .u8 [0, 1, 28, 2, 29, 14, 24, 3, 30, 22, 20, 15, 25, 17, 4, 8, 31, 27, 13, 23, 21, 19, 16, 7, 26, 12, 18, 6, 11, 5, 10, 9] (by kernel_rfl) (by kernel_rfl)) (Ev.gcons (Ev.gr_arrB hl 1 "math/bits.deBruijn64tab" 6 .u8 [0, 1, 56, 2, 57, 49, 28, 3, 61, 58, 42, 50, 38, 29, 17, 4, 62, 47, 59, 36, 45, 43, 51, 22, 53, 39, 33, 30, 24, 18, 12, 5, 63, 55, 48, 27, 60, 41, 37, 16, 46, 35, 44, 21, 52, 32, 23, 11, 54, 26, 40, 15, 34, 20, 31, 10, 25, 14, 19, 9, 13, 8, 7, 6] (by kernel_rfl) (by kernel_rfl)) (Ev.gcons (Ev.gr_arrB hl 2 "internal/strconv.uint64pow10" 1 .u64 [1, 10, 100, 1000, 10000, 100000, 1000000, 10000000, 100000000, 1000000000, 10000000000, 100000000000, 1000000000000, 10000000000000, 100000000000000, 1000000000000000, 10000000000000000, 100000000000000000, 1000000000000000000, 10000000000000000000] (by kernel_rfl) (by kernel_rfl)) (Ev.gcons (k904 _ 904 rfl) (Ev.gcons (k903 _ 903 rfl) (Ev.gcons (Ev.gr_arrB hl 5 "cubbyhole/entry.values" 0 .u8 [0, 0, 0, 0, 0, 0, 0, 0, 0, 0, 0, 0, 0, 0, 0, 0, 0, 0, 0, 0, 0, 0, 0, 0, 0, 0, 0, 0, 0, 0, 0, 0, 0, 0, 0, 0, 0, 0, 0, 0, 0, 0, 0, 0, 0, 0, 0, 0, 1, 2, 3, 4, 5, 6, 7, 8, 9, 10, 0, 0, 0, 0, 0, 0, 0, 0, 0, 0, 0, 0, 0, 0, 0, 0, 0, 0, 0, 0, 0, 0, 0, 0, 0, 0, 0, 0, 0, 0, 0, 0, 0, 0, 0, 0, 0, 0, 0, 11, 12, 13, 14, 15, 16] (by kernel_rfl) (by kernel_rfl)) Ev.gnil)))))) (Ev.hcons (Ev.Fact.extI (by kernel_rfl)) (Ev.hcons (Ev.Fact.extI (by kernel_rfl)) Ev.hnil))
  have b2 := Ev.wf_u64 w0_2
  have b3 := Ev.wf_u64 w0_3
  exact Ent.lholds4_any a0_0 a1_0 a2_0 a0_1 a1_1 a2_1 l0_1 c0_1 l1_1 c1_1 l2_1 c2_1 a0_2 a1_2 a2_2 a0_3 a1_3 a2_3 z0_1 w s0_1 b2.1 (by omega) b3.1 (by omega) (Ent.gv_of hl hsh rfl rfl rfl (by rfl)) HKN

set_option maxRecDepth 100000 in
theorem lifted (os : Os) (started : os.Started) (H : Type) (enc : TypeId × Value → H) :
    ReturnsInHanded {} Tryd.checked os 8 .any (fun w args => (Rows.entryHoldsSpec.pre enc Tryd.prog Tryd.f8 Rows.entryHoldsRow.domain false w args ∧ laidMet Tryd.prog Rows.entryHoldsRow.laid w) ∧ sizedMet enc Tryd.prog Tryd.f8 (OpenSpec.ofChange Rows.entryHoldsSpec) false w args) (Rows.entryHoldsSpec.post enc Tryd.prog Tryd.f8 false true false false) := by
  refine Ev.returnsInHanded_and_shaped (C := Tryd.checked) (X := fun w _ => laidMet Tryd.prog Rows.entryHoldsRow.laid w) (fun _ _ _ hh h => h.of_heap hh) own started (by kernel_rfl) Tryd.func8
    (ChangeSpec.witness_at (enc := enc) (C := Tryd.checked) (os := os) (X := fun w _ => laidMet Tryd.prog Rows.entryHoldsRow.laid w) false (Low.laidWorld os) #[.agg #[.string ⟨#[]⟩, .slice none 0 0, .int .u64 0, .int .u64 0], .agg #[.string ⟨#[]⟩, .slice none 0 0, .int .u64 0, .int .u64 0], .agg #[.string ⟨#[]⟩, .slice none 0 0, .int .u64 0, .int .u64 0]] 8 rfl (by kernel_rfl) (by kernel_rfl) (by kernel_rfl) (by kernel_rfl) (by kernel_rfl) (laid_met os _)) ?_
  intro W base args ds gs before hval0 hW hcnd _ hL hSh _
  have hval : ∀ (j : Nat) t v, Tryd.f8.params[j]? = some t → args[j]? = some v → Value.okWide Tryd.prog W .any base t v := hval0
  have hW' := hW
  obtain ⟨p, q, hA0, hV, rfl, hfz, hnd⟩ := hW
  have hA : DataW.TrodAll enc Tryd.prog W 0 (fun _ => true) true Tryd.f8.params.toList args.toList ds p := hA0
  rw [Tryd.params8] at hA hval
  obtain ⟨v0, vs0, d0, ds0, p0, q0, hargs, rfl, rfl, h0, r0⟩ := trodAll_cons hA
  obtain ⟨v1, vs1, d1, ds1, p1, q1, rfl, rfl, rfl, h1, r1⟩ := trodAll_cons r0
  obtain ⟨v2, vs2, d2, ds2, p2, q2, rfl, rfl, rfl, h2, r2⟩ := trodAll_cons r1
  obtain ⟨rfl, rfl, rfl⟩ := trodAll_nil r2
  obtain rfl : args = #[v0, v1, v2] := by cases args; simp_all
  obtain ⟨rfl, rfl⟩ := trodVars_none hV
  have k0 := h0
  have lt0 : ∀ x ∈ p0, x.block < W.heap.size := by obtain ⟨m, hm⟩ := k0; exact DataW.trod_lt m _ _ _ hm
  obtain ⟨cs0, rfl, hs0⟩ := okWide_struct Tryd.underlying33 (hval 0 33 v0 rfl rfl)
  obtain ⟨fu0_0, x0_0, f0_0⟩ := Ev.field_of Tryd.underlying33 h0 0 rfl
  obtain ⟨a0_0, e0_0, w0_0⟩ := Ev.cell_string (o := 0) (by kernel_rfl : Tryd.prog.underlying 9 = some (.string)) (by kernel_rfl) f0_0
  obtain ⟨fu0_1, x0_1, f0_1⟩ := Ev.field_of Tryd.underlying33 h0 1 rfl
  obtain ⟨a0_1, l0_1, c0_1, z0_1, e0_1, s0_1⟩ := Ev.cell_bytes (o := 1) (by kernel_rfl : Tryd.prog.underlying 31 = some (.slice 5)) (by kernel_rfl) (by kernel_rfl) (by kernel_rfl) f0_1
  obtain ⟨fu0_2, x0_2, f0_2⟩ := Ev.field_of Tryd.underlying33 h0 2 rfl
  obtain ⟨a0_2, e0_2, w0_2⟩ := Ev.cell_int (o := 2) (by kernel_rfl : Tryd.prog.underlying 23 = some (.int .u64)) (by kernel_rfl) f0_2
  obtain ⟨fu0_3, x0_3, f0_3⟩ := Ev.field_of Tryd.underlying33 h0 3 rfl
  obtain ⟨a0_3, e0_3, w0_3⟩ := Ev.cell_int (o := 3) (by kernel_rfl : Tryd.prog.underlying 22 = some (.int .u64)) (by kernel_rfl) f0_3
  obtain rfl : cs0 = #[.string a0_0, .slice a0_1 l0_1 c0_1, .int .u64 a0_2, .int .u64 a0_3] := Ev.cells_eq [.string a0_0, .slice a0_1 l0_1 c0_1, .int .u64 a0_2, .int .u64 a0_3] (hs0.trans (by kernel_rfl)) fun j v hj => match j, hj with
    | 0, hj => by cases hj; exact e0_0
    | 1, hj => by cases hj; exact e0_1
    | 2, hj => by cases hj; exact e0_2
    | 3, hj => by cases hj; exact e0_3
    | j + 4, hj => by cases hj
  have k1 := h1
  have lt1 : ∀ x ∈ p1, x.block < W.heap.size := by obtain ⟨m, hm⟩ := k1; exact DataW.trod_lt m _ _ _ hm
  obtain ⟨cs1, rfl, hs1⟩ := okWide_struct Tryd.underlying33 (hval 1 33 v1 rfl rfl)
  obtain ⟨fu1_0, x1_0, f1_0⟩ := Ev.field_of Tryd.underlying33 h1 0 rfl
  obtain ⟨a1_0, e1_0, w1_0⟩ := Ev.cell_string (o := 0) (by kernel_rfl : Tryd.prog.underlying 9 = some (.string)) (by kernel_rfl) f1_0
  obtain ⟨fu1_1, x1_1, f1_1⟩ := Ev.field_of Tryd.underlying33 h1 1 rfl
  obtain ⟨a1_1, l1_1, c1_1, z1_1, e1_1, s1_1⟩ := Ev.cell_bytes (o := 1) (by kernel_rfl : Tryd.prog.underlying 31 = some (.slice 5)) (by kernel_rfl) (by kernel_rfl) (by kernel_rfl) f1_1
  obtain ⟨fu1_2, x1_2, f1_2⟩ := Ev.field_of Tryd.underlying33 h1 2 rfl
  obtain ⟨a1_2, e1_2, w1_2⟩ := Ev.cell_int (o := 2) (by kernel_rfl : Tryd.prog.underlying 23 = some (.int .u64)) (by kernel_rfl) f1_2
  obtain ⟨fu1_3, x1_3, f1_3⟩ := Ev.field_of Tryd.underlying33 h1 3 rfl
  obtain ⟨a1_3, e1_3, w1_3⟩ := Ev.cell_int (o := 3) (by kernel_rfl : Tryd.prog.underlying 22 = some (.int .u64)) (by kernel_rfl) f1_3
  obtain rfl : cs1 = #[.string a1_0, .slice a1_1 l1_1 c1_1, .int .u64 a1_2, .int .u64 a1_3] := Ev.cells_eq [.string a1_0, .slice a1_1 l1_1 c1_1, .int .u64 a1_2, .int .u64 a1_3] (hs1.trans (by kernel_rfl)) fun j v hj => match j, hj with
    | 0, hj => by cases hj; exact e1_0
    | 1, hj => by cases hj; exact e1_1
    | 2, hj => by cases hj; exact e1_2
    | 3, hj => by cases hj; exact e1_3
    | j + 4, hj => by cases hj
  have k2 := h2
  have lt2 : ∀ x ∈ p2, x.block < W.heap.size := by obtain ⟨m, hm⟩ := k2; exact DataW.trod_lt m _ _ _ hm
  obtain ⟨cs2, rfl, hs2⟩ := okWide_struct Tryd.underlying33 (hval 2 33 v2 rfl rfl)
  obtain ⟨fu2_0, x2_0, f2_0⟩ := Ev.field_of Tryd.underlying33 h2 0 rfl
  obtain ⟨a2_0, e2_0, w2_0⟩ := Ev.cell_string (o := 0) (by kernel_rfl : Tryd.prog.underlying 9 = some (.string)) (by kernel_rfl) f2_0
  obtain ⟨fu2_1, x2_1, f2_1⟩ := Ev.field_of Tryd.underlying33 h2 1 rfl
  obtain ⟨a2_1, l2_1, c2_1, z2_1, e2_1, s2_1⟩ := Ev.cell_bytes (o := 1) (by kernel_rfl : Tryd.prog.underlying 31 = some (.slice 5)) (by kernel_rfl) (by kernel_rfl) (by kernel_rfl) f2_1
  obtain ⟨fu2_2, x2_2, f2_2⟩ := Ev.field_of Tryd.underlying33 h2 2 rfl
  obtain ⟨a2_2, e2_2, w2_2⟩ := Ev.cell_int (o := 2) (by kernel_rfl : Tryd.prog.underlying 23 = some (.int .u64)) (by kernel_rfl) f2_2
  obtain ⟨fu2_3, x2_3, f2_3⟩ := Ev.field_of Tryd.underlying33 h2 3 rfl
  obtain ⟨a2_3, e2_3, w2_3⟩ := Ev.cell_int (o := 3) (by kernel_rfl : Tryd.prog.underlying 22 = some (.int .u64)) (by kernel_rfl) f2_3
  obtain rfl : cs2 = #[.string a2_0, .slice a2_1 l2_1 c2_1, .int .u64 a2_2, .int .u64 a2_3] := Ev.cells_eq [.string a2_0, .slice a2_1 l2_1 c2_1, .int .u64 a2_2, .int .u64 a2_3] (hs2.trans (by kernel_rfl)) fun j v hj => match j, hj with
    | 0, hj => by cases hj; exact e2_0
    | 1, hj => by cases hj; exact e2_1
    | 2, hj => by cases hj; exact e2_2
    | 3, hj => by cases hj; exact e2_3
    | j + 4, hj => by cases hj
  clear hA0 hval0
  simp only [List.append_nil] at hW'
  refine (walk a0_0 a0_1 l0_1 c0_1 a0_2 a0_3 a1_0 a1_1 l1_1 c1_1 a1_2 a1_3 a2_0 a2_1 l2_1 c2_1 a2_2 a2_3 w0_0 w0_2 w0_3 w1_0 w1_2 w1_3 w2_0 w2_2 w2_3 W z0_1 s0_1 z1_1 s1_1 z2_1 s2_1 hL hSh).mono fun e W' ⟨he, bel⟩ => ?_
  subst he
  exact ⟨_, rfl, _, _, _, [], _, [], hW', trodAll_mk1 (shut_bool (by kernel_rfl : Tryd.prog.underlying 4 = some .bool) _), (trodAll_cons_mk (Below.trod laidOut (by kernel_rfl) (of_decide_eq_true (by kernel_rfl)) k0 bel lt0) (trodAll_cons_mk (Below.trod laidOut (by kernel_rfl) (of_decide_eq_true (by kernel_rfl)) k1 bel lt1) (trodAll_cons_mk (Below.trod laidOut (by kernel_rfl) (of_decide_eq_true (by kernel_rfl)) k2 bel lt2) trodAll_mk0))), rfl, bel.frame _, fun h => by cases h⟩

theorem over : Rows.entryHoldsRow.holds Tryd.pinned (OpenSpec.ofChange Rows.entryHoldsSpec) :=
  OpenClaim.holds_of_wide 8 Tryd.f8 rfl rfl rfl rfl rfl rfl rfl ⟨rfl, rfl, rfl, rfl, rfl⟩ rfl rfl rfl rfl rfl (by kernel_rfl) Tryd.func8 (by kernel_rfl)
    (of_decide_eq_true (by kernel_rfl)) (by unfold Func.isWrapper; first | (rw [if_pos (by decide +kernel)]; kernel_rfl) | (rw [if_neg (by decide +kernel)]; exact ⟨rfl, rfl⟩))
    (fun os started H enc _ => lifted os started H enc)

theorem proved : Rows.EntryHoldsCardSaid :=
  Claim7.holds_tied_plain_at .later [] [.data, .data, .data, .sentinel, .sentinel, .data] true (true, "f25d0f62cb56c03d321164bb57f3e2912425fabf4279639ac8cebe20b7fc2ec0") true
    over (fun _ h => by cases h) (by kernel_rfl) (fun _ h => by cases h) entryHolds_row_tie rfl ⟨rfl, rfl⟩ (by kernel_rfl) rfl
    (fun f fn hf hfn => by
      obtain rfl : f = 8 := Option.some.inj ((show Tryd.prog.funcNamed "cubbyhole/cubbyholelaw04.EntryHolds" = some 8 by kernel_rfl).symm.trans hf) |>.symm
      obtain rfl : fn = Tryd.f8 := (Option.some.inj (Tryd.func8.symm.trans hfn)).symm
      exact ⟨by kernel_rfl, fun j t ht => Ev.standIns (ps := Tryd.f8.params) (f := Tryd.prog.wantsStandIn) (by kernel_rfl) ht⟩)
    (by kernel_rfl)
#print axioms proved
end Go.Proofs.YtlpepmhpnmnpkaaDoor.entryHolds
