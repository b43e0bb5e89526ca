/-
  Ratios of package report (layer 52): per cent; the law's own.
-/
import Derived.Test.YtgdpfnmmhpcleaaDoorRepV
set_option linter.unusedVariables false
set_option linter.unusedSimpArgs false
namespace Go.Proofs.YtgdpfnmmhpcleaaDoor.Num
open Go.RowKit Kit Go.Sort
set_option maxRecDepth 100000 in
set_option maxHeartbeats 1000000 in
theorem lratio_ok (a b : Nat) (hab : a ≤ b) (hb : b ≤ 1073741824) (w : World) :
    Calls Tryd.prog 64 #[.int .i64 (a : Int), .int .i64 (b : Int)] w fun e w' => e = .returned (.string (rat a b)) ∧ Below w.heap.size w w' := by
  by_cases ha : a = 0
  · have HR := Lib.hid (show rat a b = ⟨#[48, 47, 49]⟩ from if_pos ha)
    have ha0 : ((a : Int) == 0) = true := by rw [beq_iff_eq]; omega
    clear ha
    go_enter Tryd.func64, Tryd.ntmps64
    go_wp2_with fail
    go_ret
    exact ⟨by rw [HR.out]; rfl, Below.refl _ _⟩
  · have HR := Lib.hid (show rat a b = _ from if_neg ha)
    have ha0 : ((a : Int) == 0) = false := by rw [beq_eq_false_iff_ne]; omega
    have HA := Lib.hid ha
    clear ha
    go_enter Tryd.func64, Tryd.ntmps64
    have HI := Lib.hid (fun (u : Nat) (hu : RowKit.Hid (u < 9223372036854775808)) w1 => decimal_any u hu.out w1)
    go_wp2_with fail
    go_loopw [5, 6] (fun x y wr => ∃ m n : Nat, Below w.heap.size w wr ∧ m ≤ 1073741824 ∧ n ≤ 1073741824 ∧ Nat.gcd m n = Nat.gcd a b ∧ (0 < m) ∧ x = .int .i64 m ∧ y = .int .i64 n) (fun _ y _ => (intOf y).toNat)
    case atStart => exact ⟨b, a, Below.refl _ _, hb, by omega, Nat.gcd_comm b a, by have := HA.out; omega, rfl, rfl⟩
    case round =>
      obtain ⟨m, n, hbw, hm, hn, hg, hm0, rfl, rfl⟩ := hrel
      by_cases hn0 : 0 < n
      · have HG := Lib.hid (show Nat.gcd n (m % n) = Nat.gcd a b by rw [← hg, Nat.gcd_comm n, ← Nat.gcd_rec, Nat.gcd_comm])
        have n0 : ¬ ((n : Nat) : Int) = 0 := by omega
        have n1 : ((n : Int) == 0) = false := by rw [beq_eq_false_iff_ne]; omega
        have n2 : (0 : Int) < (n : Int) := by omega
        have s2 : (m : Int).tmod (n : Int) = ((m % n : Nat) : Int) := by rw [Int.tmod_eq_emod_of_nonneg (by omega)]; simp
        have s3 : (m : Int) % (n : Int) = ((m % n : Nat) : Int) := by simp
        have hlt := Nat.mod_lt m hn0
        generalize m % n = r at *
        clear hg
        go_wp2_with fail
        go_region
        all_goals (go_wp2_with fail)
        go_roundw
        case rel => exact ⟨n, r, Below.drew hbw, hn, by omega, HG.out, by omega, rfl, rfl⟩
        case measure => simp [intOf] <;> omega
      · obtain rfl : n = 0 := by omega
        rw [Nat.gcd_zero_right] at hg
        have hga : Nat.gcd a b ≤ b := Nat.gcd_le_right a (by have := HA.out; omega)
        have HR2 := HR.out
        rw [← hg] at HR2
        have HR3 := Lib.hid HR2
        have hq1 := Nat.div_le_self a m
        have hq2 := Nat.div_le_self b m
        have z1 := divz a m
        have z2 := divz b m
        have hl := rat_len (a / m) (b / m) (by omega) (by omega)
        clear HR HR2 hg hga
        obtain ⟨hl1, hl2⟩ := hl
        generalize a / m = p at *
        generalize b / m = q at *
        have s1 := IntWalk.i64_in ((p : Nat) : Int) (by omega)
        have s2 := IntWalk.i64_in ((q : Nat) : Int) (by omega)
        have g0 : ¬ ((m : Nat) : Int) = 0 := by omega
        have g1 : (((m : Nat) : Int) == 0) = false := by rw [beq_eq_false_iff_ne]; omega
        have g2 : (0 : Int) < ((m : Nat) : Int) := by omega
        have P0 := Lib.hid (show p < 9223372036854775808 by omega)
        have Q0 := Lib.hid (show q < 9223372036854775808 by omega)
        have hl3 : ¬ 9223372036854775807 < (dec p ++ (⟨#[47]⟩ : ByteArray)).size + (dec q).size := hl2
        have hl4 : ¬ 9223372036854775807 < (dec p).size + 1 + (dec q).size := by rw [ByteArray.size_append] at hl2; exact hl2
        clear hq1 hq2 hl2
        have HBW := Lib.hid hbw
        go_wp2_with fail
        go_region_with (first
          | (go_at_call 111; refine (HI.out _ (by first | exact Q0 | exact P0) w1).mono ?_; rintro e w2 ⟨rfl, hb2⟩; replace hb2 := hb1.trans (hb2.mono hb1.size))
          | (go_at_call 111; refine (HI.out _ (by first | exact P0 | exact Q0) _).mono ?_; rintro e w1 ⟨rfl, hb1⟩; replace hb1 := (Below.drew HBW.out).trans (hb1.mono HBW.out.size)))
        all_goals (go_wp2_with fail; go_ret; exact ⟨by rw [HR3.out]; rfl, hb2⟩)
end Go.Proofs.YtgdpfnmmhpcleaaDoor.Num
