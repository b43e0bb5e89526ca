/-
  Ratios of package report (layer 52): the law.
-/
import Derived.Test.YtgdpfnmmhpcleaaDoorRepS
import Derived.Test.YtgdpfnmmhpcleaaDoorRepR
import Derived.Test.YtgdpfnmmhpcleaaDoorRepQ
set_option linter.unusedVariables false
set_option linter.unusedSimpArgs false
namespace Go.Proofs.YtgdpfnmmhpcleaaDoor.Num
open Go.RowKit Kit Go.Sort
/-- per cent of two numbers, in hundredths -/
def hun (a b : Nat) : Nat := (20000 * a + b) / (2 * b)
theorem perc_ok (a b : Nat) (hab : a ≤ b) (hb : b ≤ 1073741824) (w : World) (htab : Tabs w) :
    Calls Tryd.prog 106 #[.int .i64 (a : Int), .int .i64 (b : Int)] w fun e w' => e = .returned (.tuple #[.string (per (hun a b)), .int .i64 0]) ∧ Below w.heap.size w w' := by
  by_cases h : b = 0
  · subst h
    obtain rfl : a = 0 := by omega
    exact perc_z w htab
  · exact perc_b a b (hun a b) rfl hab hb (by omega) w htab
set_option maxRecDepth 100000 in
theorem lperc_z (w : World) :
    Calls Tryd.prog 65 #[.int .i64 0, .int .i64 0] w fun e w' => e = .returned (.string (per 0)) ∧ Below w.heap.size w w' := by
  rw [per_0]
  go_enter Tryd.func65, Tryd.ntmps65
  go_wp2_with fail
  go_ret
  exact ⟨rfl, Below.refl _ _⟩
theorem lperc_ok (a b : Nat) (hab : a ≤ b) (hb : b ≤ 1073741824) (w : World) :
    Calls Tryd.prog 65 #[.int .i64 (a : Int), .int .i64 (b : Int)] w fun e w' => e = .returned (.string (per (hun a b))) ∧ Below w.heap.size w w' := by
  by_cases h : b = 0
  · subst h
    obtain rfl : a = 0 := by omega
    exact lperc_z w
  · have hH := H_eq a b (by omega)
    unfold hun
    rw [hH]
    split
    · rename_i hc
      exact lperc_b a b _ _ rfl rfl hc hab hb (by omega) w
    · rename_i hc
      exact lperc_a a b _ _ rfl rfl (by omega) hab hb (by omega) w
theorem ratio_no (a b : Int) (h : ¬ (0 ≤ a ∧ a ≤ b ∧ b ≤ 1073741824)) (w : World) :
    Calls Tryd.prog 105 #[.int .i64 a, .int .i64 b] w fun e w' => e = .returned (.tuple #[.string ⟨#[]⟩, .int .i64 2]) ∧ w = w' := by
  have HH := Lib.hid (hasr_f a b h w)
  clear h
  go_enter Tryd.func105, Tryd.ntmps105
  go_wp2_with (first | (go_at_call 132; refine HH.out.mono ?_; rintro e w1 ⟨rfl, rfl⟩))
  go_ret2
  exact ⟨rfl, rfl⟩
theorem perc_no (a b : Int) (h : ¬ (0 ≤ a ∧ a ≤ b ∧ b ≤ 1073741824)) (w : World) :
    Calls Tryd.prog 106 #[.int .i64 a, .int .i64 b] w fun e w' => e = .returned (.tuple #[.string ⟨#[]⟩, .int .i64 2]) ∧ w = w' := by
  have HH := Lib.hid (hasr_f a b h w)
  clear h
  go_enter Tryd.func106, Tryd.ntmps106
  go_wp2_with (first | (go_at_call 132; refine HH.out.mono ?_; rintro e w1 ⟨rfl, rfl⟩))
  go_ret2
  exact ⟨rfl, rfl⟩
theorem says_no (a b : Int) (h : ¬ (0 ≤ a ∧ a ≤ b ∧ b ≤ 1073741824)) (w : World) :
    Calls Tryd.prog 62 #[.int .i64 a, .int .i64 b, .string ⟨#[]⟩, .string ⟨#[]⟩] w fun e w' => e = .returned (.bool true) ∧ w = w' := by
  have HR := Lib.hid (ratio_no a b h w)
  have HP := Lib.hid (perc_no a b h w)
  clear h
  go_enter Tryd.func62, Tryd.ntmps62
  go_wp2_with (first | (go_at_call 105; refine HR.out.mono ?_; rintro e w1 ⟨rfl, rfl⟩) | (go_at_call 106; refine HP.out.mono ?_; rintro e w1 ⟨rfl, rfl⟩))
  go_ret
  exact ⟨rfl, rfl⟩
theorem rat_ne (a b : Nat) : ((rat a b).toList == []) = false := by
  rw [ByteArray.toList_eq]
  unfold rat
  split
  · rfl
  · rw [Bool.eq_false_iff]
    intro h
    have h1 := congrArg List.length (eq_of_beq h)
    have h2 : (dec (a / Nat.gcd a b) ++ sl ++ dec (b / Nat.gcd a b)).size = 0 := by
      show (dec (a / Nat.gcd a b) ++ sl ++ dec (b / Nat.gcd a b)).data.size = 0
      rw [← Array.length_toList]; exact h1
    rw [ByteArray.size_append, ByteArray.size_append, show sl.size = 1 from rfl] at h2
    omega
theorem says_ok (a b : Nat) (hab : a ≤ b) (hb : b ≤ 1073741824) (w : World) (htab : Tabs w) :
    Calls Tryd.prog 62 #[.int .i64 (a : Int), .int .i64 (b : Int), .string (rat a b), .string (per (hun a b))] w fun e w' => e = .returned (.bool true) ∧ Below w.heap.size w w' := by
  have HR := Lib.hid (ratio_ok a b hab hb w htab)
  have HP := Lib.hid (fun w1 (h : Below w.heap.size w w1) => perc_ok a b hab hb w1 (htab.below h))
  have hne := rat_ne a b
  generalize rat a b = r at *
  generalize per (hun a b) = p at *
  clear htab hab hb
  go_enter Tryd.func62, Tryd.ntmps62
  go_wp2_with (first | (go_at_call 105; refine HR.out.mono ?_; rintro e w1 ⟨rfl, hb1⟩) | (go_at_call 106; refine (HP.out _ hb1).mono ?_; rintro e w2 ⟨rfl, hb2⟩; replace hb2 := hb1.trans (hb2.mono hb1.size)))
  go_ret
  exact ⟨rfl, hb2⟩
theorem rlaw_any (a b : Int) (w : World) (htab : Tabs w)
    (HKN : ∀ w1, Below w.heap.size w w1 → Calls Tryd.prog 63 #[] w1 fun e w' => e = .returned (.bool true) ∧ Below w1.heap.size w1 w') :
    Calls Tryd.prog 13 #[.int .i64 a, .int .i64 b] w fun e w' => e = .returned (.bool true) ∧ Below w.heap.size w w' := by
  have HK := Lib.hid HKN
  clear HKN
  by_cases h : 0 ≤ a ∧ a ≤ b ∧ b ≤ 1073741824
  · obtain ⟨h0, h1, h2⟩ := h
    have HH := Lib.hid (has_t a b h0 h1 h2 w)
    obtain ⟨x, rfl⟩ := Int.eq_ofNat_of_zero_le h0
    obtain ⟨y, rfl⟩ := Int.eq_ofNat_of_zero_le (show 0 ≤ b by omega)
    have HR := Lib.hid (lratio_ok x y (by omega) (by omega) w)
    have HP := Lib.hid (fun w1 => lperc_ok x y (by omega) (by omega) w1)
    have HS := Lib.hid (fun w1 (h : Below w.heap.size w w1) => says_ok x y (by omega) (by omega) w1 (htab.below h))
    generalize rat x y = r at *
    generalize per (hun x y) = p at *
    clear htab h0 h1 h2
    go_enter Tryd.func13, Tryd.ntmps13
    go_wp2_with (first
      | (go_at_call 61; refine HH.out.mono ?_; rintro e w1 ⟨rfl, rfl⟩)
      | (go_at_call 64; refine HR.out.mono ?_; rintro e w1 ⟨rfl, hb1⟩)
      | (go_at_call 65; refine (HP.out _).mono ?_; rintro e w2 ⟨rfl, hb2⟩; replace hb2 := hb1.trans (hb2.mono hb1.size))
      | (go_at_call 62; refine (HS.out _ hb2).mono ?_; rintro e w3 ⟨rfl, hb3⟩; replace hb3 := hb2.trans (hb3.mono hb2.size))
      | (go_at_call 63; refine (HK.out _ hb3).mono ?_; rintro e w4 ⟨rfl, hb4⟩; replace hb4 := hb3.trans (hb4.mono hb3.size)))
    go_ret
    exact ⟨rfl, hb4⟩
  · have HH := Lib.hid (has_f a b h w)
    have HS := Lib.hid (says_no a b h w)
    clear h htab
    go_enter Tryd.func13, Tryd.ntmps13
    go_wp2_with (first
      | (go_at_call 61; refine HH.out.mono ?_; rintro e w1 ⟨rfl, rfl⟩)
      | (go_at_call 62; refine HS.out.mono ?_; rintro e w1 ⟨rfl, rfl⟩)
      | (go_at_call 63; refine (HK.out _ (Below.refl _ _)).mono ?_; rintro e w4 ⟨rfl, hb4⟩))
    go_ret
    exact ⟨rfl, hb4⟩
end Go.Proofs.YtgdpfnmmhpcleaaDoor.Num
