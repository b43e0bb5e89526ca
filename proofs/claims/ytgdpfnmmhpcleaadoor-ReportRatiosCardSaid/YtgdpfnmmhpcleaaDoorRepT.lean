/-
  Ratios of package report (layer 52): per cent.
-/
import Derived.Test.YtgdpfnmmhpcleaaDoorRepU
set_option linter.unusedVariables false
set_option linter.unusedSimpArgs false
namespace Go.Proofs.YtgdpfnmmhpcleaaDoor.Num
open Go.RowKit Kit Go.Sort
def dot : ByteArray := ⟨#[46]⟩
def pc : ByteArray := ⟨#[37]⟩
def per (h : Nat) : ByteArray := (((dec (h / 100) ++ dot) ++ dec (h / 10 % 10)) ++ dec (h % 10)) ++ pc
theorem w64 (n : Int) (h0 : 0 ≤ n) (h1 : n ≤ 10000) : wrap64 n = n := IntWalk.wrap64_in n ⟨by omega, by omega⟩
theorem dec3 (k : Nat) (hk : k < 100) : Lib.decDigits (k + 100) = [49, UInt8.ofNat (48 + k / 10), UInt8.ofNat (48 + k % 10)] := by
  have e : Lib.decDigits (k + 100) = Lib.decDigits ((k + 100) / 10) ++ [UInt8.ofNat (48 + (k + 100) % 10)] := by
    conv => lhs; rw [Lib.decDigits]
    rw [dif_neg (by omega)]
  rw [e, Lib.decDigits_two (by omega) (by omega), show (k + 100) / 10 / 10 = 1 by omega, show (k + 100) / 10 % 10 = k / 10 by omega, show (k + 100) % 10 = k % 10 by omega]
  rfl
theorem part_ext (k : Nat) (hk : k < 100) : (dec (k + 100)).extract 1 (dec (k + 100)).size = dec (k / 10) ++ dec (k % 10) := by
  apply ByteArray.ext
  have h3 : (dec (k + 100)).size = 3 := by
    show (Lib.decDigits (k + 100)).toArray.size = 3
    rw [dec3 k hk]; rfl
  rw [h3]
  unfold dec
  rw [dec3 k hk, Lib.decDigits_one (show k / 10 < 10 by omega), Lib.decDigits_one (show k % 10 < 10 by omega)]
  simp
theorem part_size (k : Nat) (hk : k < 100) : (dec (k + 100)).size = 3 := by
  show (Lib.decDigits (k + 100)).toArray.size = 3
  rw [dec3 k hk]; rfl
theorem dig_size (k : Nat) (hk : k < 10) : (dec k).size = 1 := by
  show (Lib.decDigits k).toArray.size = 1
  rw [Lib.decDigits_one hk]; rfl
theorem per_eq (h : Nat) : ((dec (h / 100) ++ dot) ++ (dec (h % 100 / 10) ++ dec (h % 100 % 10))) ++ pc = per h := by
  unfold per
  rw [show h % 100 / 10 = h / 10 % 10 by omega, show h % 100 % 10 = h % 10 by omega, ← ByteArray.append_assoc]
set_option maxRecDepth 100000 in
set_option maxHeartbeats 1000000 in
theorem perc_b (a b H : Nat) (hH : H = (20000 * a + b) / (2 * b)) (hab : a ≤ b) (hb : b ≤ 1073741824) (hb0 : 0 < b) (w : World) (htab : Tabs w) :
    Calls Tryd.prog 106 #[.int .i64 (a : Int), .int .i64 (b : Int)] w fun e w' => e = .returned (.tuple #[.string (per H), .int .i64 0]) ∧ Below w.heap.size w w' := by
  have i0 : (0 : Int) ≤ (a : Int) := by omega
  have i1 : (a : Int) ≤ (b : Int) := by omega
  have i2 : (b : Int) ≤ 1073741824 := by omega
  have HH := Lib.hid (hasr_t a b i0 i1 i2 w)
  have hb1 : (0 : Int) < (b : Int) := by omega
  have hle : H ≤ 10000 := by
    rw [hH]
    have : (20000 * a + b) / (2 * b) < 10001 := by rw [Nat.div_lt_iff_lt_mul (by omega)]; omega
    omega
  have z1 : (20000 * (a : Int) + (b : Int)) / (2 * (b : Int)) = (H : Int) := by rw [hH]; push_cast; rfl
  have s1 := IntWalk.i64_in (20000 * (a : Int)) (by omega)
  have s2 := IntWalk.i64_in (20000 * (a : Int) + (b : Int)) (by omega)
  have s3 := IntWalk.i64_in (2 * (b : Int)) (by omega)
  have n1 : (0 : Int) < 2 * (b : Int) := by omega
  have n2 : ¬ 2 * (b : Int) = 0 := by omega
  have n3 : (2 * (b : Int) == 0) = false := by rw [beq_eq_false_iff_ne]; omega
  have n4 : (0 : Int) ≤ 20000 * (a : Int) + (b : Int) := by omega
  have HP := Lib.hid (fun w1 (h : Below w.heap.size w w1) => show Calls Tryd.prog 126 #[.int .i64 ((H : Int) % 100 + 100)] w1 fun e w' => e = .returned (.string (dec (H % 100 + 100))) ∧ Below w1.heap.size w1 w' from by
    have := itoa_any (H % 100 + 100) (by omega) w1 (htab.below h)
    rw [show (((H % 100 + 100 : Nat)) : Int) = (H : Int) % 100 + 100 by omega] at this
    exact this)
  have HQ := Lib.hid (fun w1 (h : Below w.heap.size w w1) => show Calls Tryd.prog 126 #[.int .i64 ((H : Int) / 100)] w1 fun e w' => e = .returned (.string (dec (H / 100))) ∧ Below w1.heap.size w1 w' from by
    have := itoa_any (H / 100) (by omega) w1 (htab.below h)
    rw [show (((H / 100 : Nat)) : Int) = (H : Int) / 100 by omega] at this
    exact this)
  have HE := Lib.hid (per_eq H)
  have hx := part_ext (H % 100) (by omega)
  have hs := part_size (H % 100) (by omega)
  have hd := dec_size (H / 100) (by omega)
  have hy1 := dig_size (H % 100 / 10) (by omega)
  have hy2 := dig_size (H % 100 % 10) (by omega)
  have hh0 : (0 : Int) ≤ (H : Int) := by omega
  have hh1 : (H : Int) ≤ 10000 := by omega
  generalize dec (H % 100 + 100) = part at *
  generalize dec (H / 100) = q at *
  generalize dec (H % 100 / 10) = x at *
  generalize dec (H % 100 % 10) = y at *
  have hs1 : (1 : Int) ≤ (part.size : Int) := by omega
  have l1 : ¬ 9223372036854775807 < q.size + 1 := by omega
  have l2 : ¬ 9223372036854775807 < (q ++ (⟨#[46]⟩ : ByteArray)).size + (x ++ y).size := by
    rw [ByteArray.size_append, ByteArray.size_append, show (⟨#[46]⟩ : ByteArray).size = 1 from rfl]; omega
  have l3 : ¬ 9223372036854775807 < ((q ++ (⟨#[46]⟩ : ByteArray)) ++ (x ++ y)).size + 1 := by
    rw [ByteArray.size_append, ByteArray.size_append, ByteArray.size_append, show (⟨#[46]⟩ : ByteArray).size = 1 from rfl]; omega
  have l4 : ¬ 9223372036854775807 < q.size + 1 + (x.size + y.size) := by omega
  have l5 : ¬ 9223372036854775807 < q.size + 1 + (x.size + y.size) + 1 := by omega
  have Z1 := Lib.hid z1
  have m0 : (0 : Int) ≤ (H : Int) % 100 + 100 := by omega
  have m1 : (H : Int) % 100 + 100 ≤ 10000 := by omega
  have r1 := IntWalk.i64_in ((H : Int) / 100) (by omega)
  have r2 := IntWalk.i64_in ((H : Int) % 100 + 100) (by omega)
  have r3 := IntWalk.i64_in (H : Int) (by omega)
  have r4 : wrap64 (H : Int) = (H : Int) := w64 _ hh0 hh1
  have r5 : wrap64 ((H : Int) % 100 + 100) = (H : Int) % 100 + 100 := w64 _ m0 m1
  clear hH hab hb hb0 htab hle hs hd hy1 hy2 i0 i1 i2 z1
  have z0 : (20000 * (a : Int) + (b : Int)).tdiv (2 * (b : Int)) = (H : Int) := by rw [Int.tdiv_eq_ediv_of_nonneg n4]; exact Z1.out
  have q4 : (H : Int).tmod 100 = (H : Int) % 100 := Int.tmod_eq_emod_of_nonneg hh0
  have q5 : (H : Int).tdiv 100 = (H : Int) / 100 := Int.tdiv_eq_ediv_of_nonneg hh0
  clear n4
  go_enter Tryd.func106, Tryd.ntmps106
  go_wp2_with (first
    | (go_at_call 132; refine HH.out.mono ?_; rintro e w1 ⟨rfl, rfl⟩)
    | (go_at_call 126; refine (HP.out _ (Below.refl _ _)).mono ?_; rintro e w1 ⟨rfl, hb1⟩))
  have HB1 := Lib.hid hb1
  go_region_with (first
    | (go_at_call 126; refine (HQ.out _ (Below.drew HB1.out)).mono ?_; rintro e w2 ⟨rfl, hb2⟩; replace hb2 := (Below.drew HB1.out).trans (hb2.mono HB1.out.size)))
  all_goals (go_wp2_with fail; go_ret2; exact ⟨by rw [← HE.out]; rfl, hb2⟩)
end Go.Proofs.YtgdpfnmmhpcleaaDoor.Num
