/-
  Ratios of package report (layer 52): per cent, the law's.
-/
import Derived.Test.YtgdpfnmmhpcleaaDoorRepT
set_option linter.unusedVariables false
set_option linter.unusedSimpArgs false
namespace Go.Proofs.YtgdpfnmmhpcleaaDoor.Num
open Go.RowKit Kit Go.Sort
set_option maxRecDepth 100000 in
set_option maxHeartbeats 1000000 in
theorem lperc_a (a b q r : Nat) (hq : q = 10000 * a / b) (hr : r = 10000 * a % b) (hc : 2 * r < b) (hab : a ≤ b) (hb : b ≤ 1073741824) (hb0 : 0 < b) (w : World) :
    Calls Tryd.prog 65 #[.int .i64 (a : Int), .int .i64 (b : Int)] w fun e w' => e = .returned (.string (per (q))) ∧ Below w.heap.size w w' := by
  have hrl : r < b := by rw [hr]; exact Nat.mod_lt _ hb0
  have hql : q ≤ 10000 := by
    rw [hq]
    have : 10000 * a / b < 10001 := by rw [Nat.div_lt_iff_lt_mul hb0]; omega
    omega
  have n4 : (0 : Int) ≤ 10000 * (a : Int) := by omega
  have ca : (10000 * (a : Int)) = ((10000 * a : Nat) : Int) := by omega
  have Z1 := Lib.hid (show (10000 * (a : Int)) / (b : Int) = (q : Int) by rw [hq, ca, Int.natCast_ediv])
  have Z2 := Lib.hid (show (10000 * (a : Int)) % (b : Int) = (r : Int) by rw [hr, ca, Int.natCast_emod])
  clear hq hr ca
  have s1 := IntWalk.i64_in (10000 * (a : Int)) (by omega)
  have s3 := IntWalk.i64_in (2 * (r : Int)) (by omega)
  have s4 := IntWalk.i64_in (q : Int) (by omega)
  have s5 := IntWalk.i64_in ((q : Int) + 1) (by omega)
  have n1 : (0 : Int) < (b : Int) := by omega
  have n2 : ¬ (b : Int) = 0 := by omega
  have n3 : ((b : Int) == 0) = false := by rw [beq_eq_false_iff_ne]; omega
  have s6 : wrap64 (q : Int) = (q : Int) := w64 _ (by omega) (by omega)
  have c1 : 2 * (r : Int) < (b : Int) := by omega
  clear hc
  have HA := Lib.hid (fun w1 => show Calls Tryd.prog 111 #[.int .i64 ((q : Int) / 100)] w1 fun e w' => e = .returned (.string (dec (q / 100))) ∧ Below w1.heap.size w1 w' from by
    have := decimal_any (q / 100) (by omega) w1
    rw [show (((q / 100 : Nat)) : Int) = (q : Int) / 100 by omega] at this
    exact this)
  have HB := Lib.hid (fun w1 => show Calls Tryd.prog 111 #[.int .i64 ((q : Int) / 10 % 10)] w1 fun e w' => e = .returned (.string (dec (q / 10 % 10))) ∧ Below w1.heap.size w1 w' from by
    have := decimal_any (q / 10 % 10) (by omega) w1
    rw [show (((q / 10 % 10 : Nat)) : Int) = (q : Int) / 10 % 10 by omega] at this
    exact this)
  have HC := Lib.hid (fun w1 => show Calls Tryd.prog 111 #[.int .i64 ((q : Int) % 10)] w1 fun e w' => e = .returned (.string (dec (q % 10))) ∧ Below w1.heap.size w1 w' from by
    have := decimal_any (q % 10) (by omega) w1
    rw [show (((q % 10 : Nat)) : Int) = (q : Int) % 10 by omega] at this
    exact this)
  have HE := Lib.hid (show per q = (((dec (q / 100) ++ dot) ++ dec (q / 10 % 10)) ++ dec (q % 10)) ++ pc from rfl)
  have hd := dec_size (q / 100) (by omega)
  have hy1 := dig_size (q / 10 % 10) (by omega)
  have hy2 := dig_size (q % 10) (by omega)
  generalize dec (q / 100) = x at *
  generalize dec (q / 10 % 10) = y at *
  generalize dec (q % 10) = z at *
  have l1 : ¬ 9223372036854775807 < x.size + 1 := by omega
  have l2 : ¬ 9223372036854775807 < (x ++ (⟨#[46]⟩ : ByteArray)).size + y.size := by
    rw [ByteArray.size_append, show (⟨#[46]⟩ : ByteArray).size = 1 from rfl]; omega
  have l3 : ¬ 9223372036854775807 < ((x ++ (⟨#[46]⟩ : ByteArray)) ++ y).size + z.size := by
    rw [ByteArray.size_append, ByteArray.size_append, show (⟨#[46]⟩ : ByteArray).size = 1 from rfl]; omega
  have l4 : ¬ 9223372036854775807 < (((x ++ (⟨#[46]⟩ : ByteArray)) ++ y) ++ z).size + 1 := by
    rw [ByteArray.size_append, ByteArray.size_append, ByteArray.size_append, show (⟨#[46]⟩ : ByteArray).size = 1 from rfl]; omega
  have l5 : ¬ 9223372036854775807 < x.size + 1 + y.size := by omega
  have l6 : ¬ 9223372036854775807 < x.size + 1 + y.size + z.size := by omega
  have l7 : ¬ 9223372036854775807 < x.size + 1 + y.size + z.size + 1 := by omega
  have m1 := IntWalk.i64_in ((q : Int) / 100) (by omega)
  have m2 := IntWalk.i64_in ((q : Int) / 10) (by omega)
  have mm : (0 : Int) ≤ (q : Int) := by omega
  have mk : (0 : Int) ≤ (q : Int) / 10 := by omega
  have m3 : (q : Int).tdiv 100 = (q : Int) / 100 := Int.tdiv_eq_ediv_of_nonneg mm
  have m4 : (q : Int).tdiv 10 = (q : Int) / 10 := Int.tdiv_eq_ediv_of_nonneg mm
  have m5 : (q : Int).tmod 10 = (q : Int) % 10 := Int.tmod_eq_emod_of_nonneg mm
  have m6 : ((q : Int) / 10).tmod 10 = (q : Int) / 10 % 10 := Int.tmod_eq_emod_of_nonneg mk
  have z1 : (10000 * (a : Int)).tdiv (b : Int) = (q : Int) := by rw [Int.tdiv_eq_ediv_of_nonneg n4]; exact Z1.out
  have z2 : (10000 * (a : Int)).tmod (b : Int) = (r : Int) := by rw [Int.tmod_eq_emod_of_nonneg n4]; exact Z2.out
  have z3 := Z1.out
  have z4 := Z2.out
  clear hab hb hb0 hql hrl hd hy1 hy2 Z1 Z2 n4
  go_enter Tryd.func65, Tryd.ntmps65
  go_wp2_with (first
    | (go_at_call 111; refine (HC.out w2).mono ?_; rintro e w3 ⟨rfl, hb3⟩; replace hb3 := hb2.trans (hb3.mono hb2.size))
    | (go_at_call 111; refine (HB.out w1).mono ?_; rintro e w2 ⟨rfl, hb2⟩; replace hb2 := hb1.trans (hb2.mono hb1.size))
    | (go_at_call 111; refine (HA.out _).mono ?_; rintro e w1 ⟨rfl, hb1⟩))
  go_ret
  exact ⟨by rw [HE.out]; rfl, hb3⟩
end Go.Proofs.YtgdpfnmmhpcleaaDoor.Num
