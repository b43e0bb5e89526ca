/-
  ControlTexts (layer 5): the text of a lane. (Under way.)
-/
import Derived.Test.YtngdbkegebmonaaDoorNumY
set_option linter.unusedVariables false
set_option linter.unusedSimpArgs false
namespace Go.Proofs.YtngdbkegebmonaaDoor.Num
open Go.RowKit Kit Go.Sort
/-- the text of a control byte -/
def ltx (c : Nat) : ByteArray := if c = 128 then ⟨#[45]⟩ else if c = 254 then ⟨#[120]⟩ else dec c
theorem itoa_any' (u : Nat) (hu : u < 9223372036854775808) (w : World) (htab : Tabs w) :
    Calls Tryd.prog 45 #[.int .i64 (u : Int)] w fun e w' => e = .returned (.string (dec u)) ∧ Below w.heap.size w w' := by
  refine (Tryd.strconv_Itoa (u : Int) (by omega) (by omega) w htab).mono ?_
  rintro e w' ⟨rfl, k, os, rfl⟩
  rw [Lib.itoa_nonneg]
  exact ⟨rfl, Lib.below_grow _ w (Nat.le_refl _) k os⟩
theorem laneText_any (c : Nat) (hc : c < 256) (w : World) (htab : Tabs w) :
    Calls Tryd.prog 41 #[.int .u8 (c : Int)] w fun e w' => e = .returned (.string (ltx c)) ∧ Below w.heap.size w w' := by
  by_cases h1 : c = 128
  · have HE := Lib.hid (show (⟨#[45]⟩ : ByteArray) = ltx c from (if_pos h1).symm)
    subst h1
    go_enter Tryd.func41, Tryd.ntmps41
    go_wp2_with fail
    go_ret
    exact ⟨by rw [← HE.out]; rfl, Below.refl _ _⟩
  by_cases h2 : c = 254
  · have HE := Lib.hid (show (⟨#[120]⟩ : ByteArray) = ltx c from ((if_neg h1).trans (if_pos h2)).symm)
    subst h2
    go_enter Tryd.func41, Tryd.ntmps41
    go_wp2_with fail
    go_ret
    exact ⟨by rw [← HE.out]; rfl, Below.refl _ _⟩
  · have HE := Lib.hid (show dec c = ltx c from ((if_neg h1).trans (if_neg h2)).symm)
    have HI := Lib.hid (itoa_any' c (by omega) w htab)
    have b1 : ((c : Int) == 128) = false := by rw [beq_eq_false_iff_ne]; omega
    have b2 : ((c : Int) == 254) = false := by rw [beq_eq_false_iff_ne]; omega
    have i0 : (c : Int) < 256 := by omega
    clear h1 h2 htab
    go_enter Tryd.func41, Tryd.ntmps41
    go_wp2_with (first | (go_at_call 45; refine HI.out.mono ?_; rintro e w1 ⟨rfl, hb⟩))
    go_ret
    exact ⟨by rw [← HE.out]; rfl, hb⟩
theorem dec_cat' (u : Nat) (h : ¬ u < 10) : dec (u / 10) ++ dec (u % 10) = dec u := by
  have h1 : u % 10 < 10 := Nat.mod_lt _ (by decide)
  have e : Lib.decDigits u = Lib.decDigits (u / 10) ++ Lib.decDigits (u % 10) := by
    rw [Lib.decDigits_one h1]
    conv => lhs; rw [Lib.decDigits]
    rw [dif_neg h]
  apply ByteArray.ext
  show _ = (Lib.decDigits u).toArray
  rw [e]
  simp [dec]
theorem rnumber_any (u : Nat) : u < 9223372036854775808 → ∀ w, Calls Tryd.prog 43 #[.int .i64 (u : Int)] w fun e w' => e = .returned (.string (dec u)) ∧ w = w' := by
  induction u using Nat.strongRecOn with
  | _ u ih =>
    intro hu w
    by_cases h : u < 10
    · clear ih
      obtain rfl | rfl | rfl | rfl | rfl | rfl | rfl | rfl | rfl | rfl : u = 0 ∨ u = 1 ∨ u = 2 ∨ u = 3 ∨ u = 4 ∨ u = 5 ∨ u = 6 ∨ u = 7 ∨ u = 8 ∨ u = 9 := by omega
      all_goals
        go_enter Tryd.func43, Tryd.ntmps43
        go_wp2_with fail
        go_ret
        exact ⟨by first | rfl | (unfold dec; rw [Lib.decDigits_one (by decide)]; rfl), rfl⟩
    · have hi := ih (u / 10) (by omega) (by omega)
      have hj := ih (u % 10) (by omega) (by omega)
      rw [show (((u / 10 : Nat)) : Int) = (u : Int) / 10 from by omega] at hi
      rw [show (((u % 10 : Nat)) : Int) = (u : Int) % 10 from by omega] at hj
      have HI := Lib.hid hi
      have HJ := Lib.hid hj
      have HC := Lib.hid (dec_cat' u h)
      have hl : (dec u).size ≤ maxLen := by
        have h1 : (dec u).size = (Lib.decDigits u).length := by simp [dec, ByteArray.size]
        rw [h1, Lib.decDigits_length]
        have hnd20 : Lib.nDigits u ≤ 20 := by have := Lib.numDigits_eq u (by omega) (by omega); split at this <;> omega
        unfold maxLen; omega
      have h' : ¬ (u : Int) < 10 := by omega
      generalize dec (u / 10) = a at *
      generalize dec (u % 10) = b at *
      generalize dec u = c at *
      have hl2 : (a ++ b).size ≤ maxLen := by rw [HC.out]; exact hl
      have hl3 : ¬ 9223372036854775807 < a.size + b.size := by rw [ByteArray.size_append] at hl2; unfold maxLen at hl2; omega
      clear hi hj ih h hl
      go_enter Tryd.func43, Tryd.ntmps43
      go_wp2_with fail
      refine (HI.out _).mono ?_
      rintro e w1 ⟨rfl, rfl⟩
      go_wp2_with fail
      refine (HJ.out _).mono ?_
      rintro e w1 ⟨rfl, rfl⟩
      go_wp2_with fail
      go_ret
      exact ⟨by rw [← HC.out]; rfl, rfl⟩
end Go.Proofs.YtngdbkegebmonaaDoor.Num
