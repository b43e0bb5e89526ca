/-
  Walks over package control (layer 5) and its reference: what each function returns.
-/
import Derived.Test.YtngdbkegebmonaaDoorWordC
import Derived.Test.YtngdbkegebmonaaDoorKit
import Derived.BigQuiet
import Derived.Deep.QuietTactic
import Derived.Deep.RegionHeld3
set_option linter.unusedVariables false
set_option linter.unusedSimpArgs false
namespace Go.Proofs.YtngdbkegebmonaaDoor.Ctl
open Go.RowKit Kit
open Word hiding tr ret_int bcell
/-- the lanes that are so -/
def emI (x : Int) : Int := setI (fun i => lane x i == 128)
def frI (x : Int) : Int := setI (fun i => lane x i == 128 || lane x i == 254)
def fuI (x : Int) : Int := setI (fun i => decide (lane x i < 128))
def maI (x t : Int) : Int := if t < 128 then setI (fun i => lane x i == t) else 0
def okB (b : Int) : Bool := decide (b < 128) || b == 128 || b == 254
def okL (x : Int) (i : Nat) : Bool := okB (lane x i)
def vaB (x : Int) : Bool := okL x 0 && okL x 1 && okL x 2 && okL x 3 && okL x 4 && okL x 5 && okL x 6 && okL x 7
def U64 (x : Int) : Prop := 0 ≤ x ∧ x < 18446744073709551616
theorem em_bd (x : Int) : 0 ≤ emI x ∧ emI x < 256 := setI_bound _
theorem fr_bd (x : Int) : 0 ≤ frI x ∧ frI x < 256 := setI_bound _
theorem fu_bd (x : Int) : 0 ≤ fuI x ∧ fuI x < 256 := setI_bound _
theorem ma_bd (x t : Int) : 0 ≤ maI x t ∧ maI x t < 256 := by unfold maI; split; exact setI_bound _; omega
theorem em_or (x : Int) : bits .or .u8 (emI x) (setI fun i => lane x i == 254) = frI x := setI_or _ _
theorem fr_or (x : Int) : bits .or .u8 (frI x) (fuI x) = setI (okL x) := by
  unfold frI fuI
  rw [setI_or]
  apply setI_congr
  intro i
  unfold okL okB
  cases decide (lane x i < 128) <;> cases (lane x i == 128) <;> cases (lane x i == 254) <;> rfl
theorem all_bits : ∀ p0 p1 p2 p3 p4 p5 p6 p7 : Bool, ((((WordM.bit p0 + 2 * (WordM.bit p1 + 2 * (WordM.bit p2 + 2 * (WordM.bit p3 + 2 * (WordM.bit p4 + 2 * (WordM.bit p5 + 2 * (WordM.bit p6 + 2 * WordM.bit p7))))))) : Nat) : Int) == 255) = (p0 && p1 && p2 && p3 && p4 && p5 && p6 && p7) := by decide +kernel
theorem va_eq (x : Int) : (setI (okL x) == 255) = vaB x := by
  unfold setI WordM.setN vaB
  exact all_bits _ _ _ _ _ _ _ _
theorem not_bits : ∀ p0 p1 p2 p3 p4 p5 p6 p7 : Bool, bits .xor .u8 255 (((WordM.bit (!p0) + 2 * (WordM.bit (!p1) + 2 * (WordM.bit (!p2) + 2 * (WordM.bit (!p3) + 2 * (WordM.bit (!p4) + 2 * (WordM.bit (!p5) + 2 * (WordM.bit (!p6) + 2 * WordM.bit (!p7)))))))) : Nat) : Int) = (((WordM.bit p0 + 2 * (WordM.bit p1 + 2 * (WordM.bit p2 + 2 * (WordM.bit p3 + 2 * (WordM.bit p4 + 2 * (WordM.bit p5 + 2 * (WordM.bit p6 + 2 * WordM.bit p7))))))) : Nat) : Int) := by decide +kernel
theorem fu_not (x : Int) : bits .xor .u8 255 (setI fun i => decide (128 ≤ lane x i)) = fuI x := by
  have : (setI fun i => decide (128 ≤ lane x i)) = setI fun i => !decide (lane x i < 128) := setI_congr _ _ fun i => by
    rw [Bool.eq_iff_iff]; simp
  rw [this]
  unfold fuI setI WordM.setN
  exact not_bits _ _ _ _ _ _ _ _
theorem isTag_any (b : Int) (w : World) : Calls Tryd.prog 30 #[.int .u8 b] w fun e w' => e = .returned (.bool (decide (b < 128))) ∧ w = w' := by
  go_enter Tryd.func30, Tryd.ntmps30
  go_wp2
  go_ret
  exact ⟨rfl, rfl⟩
theorem match_any' (x t : Int) (hx : U64 x) (t0 : 0 ≤ t) (t1 : t < 256) (w : World) : Calls Tryd.prog 10 #[.int .u64 x, .int .u8 t] w fun e w' => e = .returned (.int .u8 (maI x t)) ∧ w = w' := by
  have HM := Lib.hid (match_any x t hx.1 hx.2 t0 t1)
  by_cases h : t < 128
  · have e1 : maI x t = setI (fun i => lane x i == t) := by unfold maI; rw [if_pos h]
    rw [e1]
    generalize (setI fun i => lane x i == t) = r at HM
    go_enter Tryd.func10, Tryd.ntmps10
    go_wp2_with fail
    refine (isTag_any t _).mono ?_
    rintro e w1 ⟨rfl, rfl⟩
    go_wp2_with fail
    refine (HM.out _).mono ?_
    rintro e w1 ⟨rfl, rfl⟩
    go_wp2_with fail
    go_ret
    exact ⟨rfl, rfl⟩
  · have e1 : maI x t = 0 := by unfold maI; rw [if_neg h]
    rw [e1]
    clear HM
    have hT := isTag_any t
    rw [show decide (t < 128) = false from by simpa using h] at hT
    have HT := Lib.hid hT
    clear hT e1
    go_enter Tryd.func10, Tryd.ntmps10
    go_wp2_with fail
    refine (HT.out _).mono ?_
    rintro e w1 ⟨rfl, rfl⟩
    go_wp2_with fail
    go_ret
    exact ⟨rfl, rfl⟩
theorem empties_any (x : Int) (hx : U64 x) (w : World) : Calls Tryd.prog 12 #[.int .u64 x] w fun e w' => e = .returned (.int .u8 (emI x)) ∧ w = w' := by
  have HM := Lib.hid (match_any x 128 hx.1 hx.2 (by omega) (by omega))
  show Calls _ _ _ _ fun e w' => e = .returned (.int .u8 (setI (fun i => lane x i == 128))) ∧ w = w'
  generalize (setI fun i => lane x i == 128) = r at HM
  go_enter Tryd.func12, Tryd.ntmps12
  go_wp2_with fail
  refine (HM.out _).mono ?_
  rintro e w1 ⟨rfl, rfl⟩
  go_wp2_with fail
  go_ret
  exact ⟨rfl, rfl⟩
theorem free_any (x : Int) (hx : U64 x) (w : World) : Calls Tryd.prog 14 #[.int .u64 x] w fun e w' => e = .returned (.int .u8 (frI x)) ∧ w = w' := by
  have HE := Lib.hid (empties_any x hx)
  have HM := Lib.hid (match_any x 254 hx.1 hx.2 (by omega) (by omega))
  have HO := Lib.hid (em_or x)
  generalize emI x = a at HE HO
  generalize (setI fun i => lane x i == 254) = b at HM HO
  generalize frI x = c at HO
  go_enter Tryd.func14, Tryd.ntmps14
  go_wp2_with fail
  refine (HE.out _).mono ?_
  rintro e w1 ⟨rfl, rfl⟩
  go_wp2_with fail
  refine (HM.out _).mono ?_
  rintro e w1 ⟨rfl, rfl⟩
  go_wp2_with fail
  go_ret
  exact ⟨Word.ret_int HO.out, rfl⟩
theorem full_any (x : Int) (hx : U64 x) (w : World) : Calls Tryd.prog 16 #[.int .u64 x] w fun e w' => e = .returned (.int .u8 (fuI x)) ∧ w = w' := by
  have HM := Lib.hid (high_any x hx.1 hx.2)
  have HO := Lib.hid (show bits .xor .u8 IntKind.u8.max (setI fun i => decide (128 ≤ lane x i)) = fuI x from fu_not x)
  generalize (setI fun i => decide (128 ≤ lane x i)) = b at HM HO
  generalize fuI x = c at HO
  go_enter Tryd.func16, Tryd.ntmps16
  go_wp2_with fail
  refine (HM.out _).mono ?_
  rintro e w1 ⟨rfl, rfl⟩
  go_wp2_with fail
  go_ret
  exact ⟨Word.ret_int HO.out, rfl⟩
theorem valid_any (x : Int) (hx : U64 x) (w : World) : Calls Tryd.prog 8 #[.int .u64 x] w fun e w' => e = .returned (.bool (vaB x)) ∧ w = w' := by
  have HF := Lib.hid (free_any x hx)
  have HU := Lib.hid (full_any x hx)
  have h1 := fr_or x
  have h2 := va_eq x
  rw [← h1] at h2
  have HO := Lib.hid h2
  clear h1 h2
  generalize frI x = a at HF HO
  generalize fuI x = b at HU HO
  generalize vaB x = c at HO
  go_enter Tryd.func8, Tryd.ntmps8
  go_wp2_with fail
  refine (HF.out _).mono ?_
  rintro e w1 ⟨rfl, rfl⟩
  go_wp2_with fail
  refine (HU.out _).mono ?_
  rintro e w1 ⟨rfl, rfl⟩
  go_wp2_with fail
  go_ret
  exact ⟨ret_bool HO.out, rfl⟩
theorem blank_any (w : World) : Calls Tryd.prog 18 #[] w fun e w' => e = .returned (.int .u64 9259542123273814144) ∧ w = w' := by
  go_enter Tryd.func18, Tryd.ntmps18
  go_wp2_with fail
  refine (repeat_any 128 (by omega) (by omega) _).mono ?_
  rintro e w1 ⟨rfl, rfl⟩
  go_wp2_with fail
  go_ret
  exact ⟨rfl, rfl⟩
end Go.Proofs.YtngdbkegebmonaaDoor.Ctl
