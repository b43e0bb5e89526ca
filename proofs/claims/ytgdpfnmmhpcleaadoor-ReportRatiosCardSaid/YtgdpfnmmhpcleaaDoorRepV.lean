/-
  Ratios of package report (layer 52).
-/
import Derived.Test.YtgdpfnmmhpcleaaDoorRepW
set_option linter.unusedVariables false
set_option linter.unusedSimpArgs false
namespace Go.Proofs.YtgdpfnmmhpcleaaDoor.Num
open Go.RowKit Kit Go.Sort
def sl : ByteArray := ⟨#[47]⟩
def rat (a b : Nat) : ByteArray := if a = 0 then ⟨#[48, 47, 49]⟩ else dec (a / Nat.gcd a b) ++ sl ++ dec (b / Nat.gcd a b)
theorem rat_len (x y : Nat) (hx : x < 9223372036854775808) (hy : y < 9223372036854775808) : ¬ 9223372036854775807 < (dec x).size + 1 ∧ ¬ 9223372036854775807 < (dec x ++ sl).size + (dec y).size := by
  have h1 := dec_size x hx
  have h2 := dec_size y hy
  rw [ByteArray.size_append, show sl.size = 1 from rfl]
  omega
theorem hasr_t (a b : Int) (h0 : 0 ≤ a) (h1 : a ≤ b) (h2 : b ≤ 1073741824) (w : World) : Calls Tryd.prog 132 #[.int .i64 a, .int .i64 b] w fun e w' => e = .returned (.bool true) ∧ w = w' := by
  go_enter Tryd.func132, Tryd.ntmps132
  go_wp2
  go_ret
  exact ⟨ret_bool (by simp <;> omega), rfl⟩
theorem hasr_f (a b : Int) (h : ¬ (0 ≤ a ∧ a ≤ b ∧ b ≤ 1073741824)) (w : World) : Calls Tryd.prog 132 #[.int .i64 a, .int .i64 b] w fun e w' => e = .returned (.bool false) ∧ w = w' := by
  have H := Lib.hid h
  clear h
  go_enter Tryd.func132, Tryd.ntmps132
  go_wp2
  all_goals (go_ret; exact ⟨ret_bool (by have h := H.out; simp <;> omega), rfl⟩)
theorem has_t (a b : Int) (h0 : 0 ≤ a) (h1 : a ≤ b) (h2 : b ≤ 1073741824) (w : World) : Calls Tryd.prog 61 #[.int .i64 a, .int .i64 b] w fun e w' => e = .returned (.bool true) ∧ w = w' := by
  go_enter Tryd.func61, Tryd.ntmps61
  go_wp2
  go_ret
  exact ⟨ret_bool (by simp <;> omega), rfl⟩
theorem has_f (a b : Int) (h : ¬ (0 ≤ a ∧ a ≤ b ∧ b ≤ 1073741824)) (w : World) : Calls Tryd.prog 61 #[.int .i64 a, .int .i64 b] w fun e w' => e = .returned (.bool false) ∧ w = w' := by
  have H := Lib.hid h
  clear h
  go_enter Tryd.func61, Tryd.ntmps61
  go_wp2
  all_goals (go_ret; exact ⟨ret_bool (by have h := H.out; simp <;> omega), rfl⟩)
theorem divz (a d : Nat) : ((a : Int) / (d : Int)) = ((a / d : Nat) : Int) := by simp
set_option maxRecDepth 100000 in
set_option maxHeartbeats 1000000 in
theorem ratio_ok (a b : Nat) (hab : a ≤ b) (hb : b ≤ 1073741824) (w : World) (htab : Tabs w) :
    Calls Tryd.prog 105 #[.int .i64 (a : Int), .int .i64 (b : Int)] w fun e w' => e = .returned (.tuple #[.string (rat a b), .int .i64 0]) ∧ Below w.heap.size w w' := by
  have i0 : (0 : Int) ≤ (a : Int) := by omega
  have i1 : (a : Int) ≤ (b : Int) := by omega
  have i2 : (b : Int) ≤ 1073741824 := by omega
  have HH := Lib.hid (hasr_t a b i0 i1 i2 w)
  by_cases ha : a = 0
  · have HR := Lib.hid (show rat a b = ⟨#[48, 47, 49]⟩ from if_pos ha)
    have ha0 : ((a : Int) == 0) = true := by rw [beq_iff_eq]; omega
    clear ha htab
    go_enter Tryd.func105, Tryd.ntmps105
    go_wp2_with (first | (go_at_call 132; refine HH.out.mono ?_; rintro e w1 ⟨rfl, rfl⟩))
    go_ret2
    exact ⟨by rw [HR.out]; rfl, Below.refl _ _⟩
  · have HR := Lib.hid (show rat a b = _ from if_neg ha)
    have ha0 : ((a : Int) == 0) = false := by rw [beq_eq_false_iff_ne]; omega
    have hg : 0 < Nat.gcd a b := Nat.gcd_pos_of_pos_left b (by omega)
    have hgb : Nat.gcd a b ≤ b := Nat.gcd_le_right a (by omega)
    have hl := rat_len (a / Nat.gcd a b) (b / Nat.gcd a b) (by have := Nat.div_le_self a (Nat.gcd a b); omega) (by have := Nat.div_le_self b (Nat.gcd a b); omega)
    have hq1 := Nat.div_le_self a (Nat.gcd a b)
    have hq2 := Nat.div_le_self b (Nat.gcd a b)
    have HD := Lib.hid (divisor_any b a (by omega) (by omega) w)
    generalize Nat.gcd a b = g at *
    have z1 := divz a g
    have z2 := divz b g
    obtain ⟨hl1, hl2⟩ := hl
    generalize a / g = p at *
    generalize b / g = q at *
    have s1 := IntWalk.i64_in ((p : Nat) : Int) (by omega)
    have s2 := IntWalk.i64_in ((q : Nat) : Int) (by omega)
    have g0 : ¬ ((g : Nat) : Int) = 0 := by omega
    have g1 : (((g : Nat) : Int) == 0) = false := by rw [beq_eq_false_iff_ne]; omega
    have g2 : (0 : Int) < ((g : Nat) : Int) := by omega
    have HI := Lib.hid (fun (u : Nat) (hu : RowKit.Hid (u < 9223372036854775808)) w1 (h : Below w.heap.size w w1) => itoa_any u hu.out w1 (htab.below h))
    have P0 := Lib.hid (show p < 9223372036854775808 by omega)
    have Q0 := Lib.hid (show q < 9223372036854775808 by omega)
    have hl3 : ¬ 9223372036854775807 < (dec p ++ (⟨#[47]⟩ : ByteArray)).size + (dec q).size := hl2
    have hl4 : ¬ 9223372036854775807 < (dec p).size + 1 + (dec q).size := by rw [ByteArray.size_append] at hl2; exact hl2
    clear ha htab hq1 hq2 hg hgb hl2
    go_enter Tryd.func105, Tryd.ntmps105
    go_wp2_with (first
      | (go_at_call 132; refine HH.out.mono ?_; rintro e w1 ⟨rfl, rfl⟩)
      | (go_at_call 133; refine HD.out.mono ?_; rintro e w1 ⟨rfl, rfl⟩))
    go_region_with (first
      | (go_at_call 126; refine (HI.out _ (by first | exact Q0 | exact P0) _ hb1).mono ?_; rintro e w2 ⟨rfl, hb2⟩; replace hb2 := hb1.trans (hb2.mono hb1.size))
      | (go_at_call 126; refine (HI.out _ (by first | exact P0 | exact Q0) _ (Below.drew (Below.refl _ _))).mono ?_; rintro e w1 ⟨rfl, hb1⟩; replace hb1 := (Below.drew (Below.refl w.heap.size w)).trans hb1))
    all_goals (go_wp2_with fail; go_ret2; exact ⟨by rw [HR.out]; rfl, hb2⟩)
end Go.Proofs.YtgdpfnmmhpcleaaDoor.Num
