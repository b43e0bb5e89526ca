/-
  Ratios of package report (layer 52): per cent, the law's.
-/
import Derived.Test.YtgdpfnmmhpcleaaDoorRepT
set_option linter.unusedVariables false
set_option linter.unusedSimpArgs false
namespace Go.Proofs.YtgdpfnmmhpcleaaDoor.Num
open Go.RowKit Kit Go.Sort
theorem per_0 : per 0 = ⟨#[48, 46, 48, 48, 37]⟩ := by
  unfold per dec
  rw [show 0 / 100 = 0 from rfl, show 0 / 10 % 10 = 0 from rfl, Lib.decDigits_one (show 0 < 10 by decide)]
  rfl
theorem H_eq (a b : Nat) (hb : 0 < b) : (20000 * a + b) / (2 * b) = if b ≤ 2 * (10000 * a % b) then 10000 * a / b + 1 else 10000 * a / b := by
  have h := Nat.div_add_mod (10000 * a) b
  have hr := Nat.mod_lt (10000 * a) hb
  generalize 10000 * a / b = q at *
  generalize 10000 * a % b = r at *
  have e0 : q * (2 * b) = 2 * (b * q) := by rw [Nat.mul_comm q, Nat.mul_assoc]
  have e1 : (q + 1) * (2 * b) = 2 * (b * q) + 2 * b := by rw [Nat.add_mul, Nat.one_mul, e0]
  have e2 : (q + 1 + 1) * (2 * b) = 2 * (b * q) + 2 * b + 2 * b := by rw [Nat.add_mul, Nat.one_mul, e1]
  generalize b * q = t at *
  split
  · exact Nat.div_eq_of_lt_le (by rw [e1]; omega) (by rw [e2]; omega)
  · exact Nat.div_eq_of_lt_le (by rw [e0]; omega) (by rw [e1]; omega)
set_option maxRecDepth 100000 in
set_option maxHeartbeats 1000000 in
theorem perc_z (w : World) (htab : Tabs w) :
    Calls Tryd.prog 106 #[.int .i64 0, .int .i64 0] w fun e w' => e = .returned (.tuple #[.string (per 0), .int .i64 0]) ∧ Below w.heap.size w w' := by
  have HH := Lib.hid (hasr_t 0 0 (by omega) (by omega) (by omega) w)
  have HP := Lib.hid (itoa_any 100 (by omega) w htab)
  have HQ := Lib.hid (fun w1 (h : Below w.heap.size w w1) => itoa_any 0 (by omega) w1 (htab.below h))
  have hx := part_ext 0 (by omega)
  have hs := part_size 0 (by omega)
  rw [show 0 + 100 = 100 from rfl] at hx hs
  have HE := Lib.hid (per_eq 0)
  rw [show 0 % 100 / 10 = 0 from rfl, show 0 % 100 % 10 = 0 from rfl] at HE
  rw [show 0 / 10 = 0 from rfl, show 0 % 10 = 0 from rfl] at hx
  have hd := dig_size 0 (by omega)
  generalize dec 100 = part at *
  generalize dec 0 = x at *
  have hs1 : (1 : Int) ≤ (part.size : Int) := by omega
  have l1 : ¬ 9223372036854775807 < x.size + 1 := by omega
  have l2 : ¬ 9223372036854775807 < (x ++ (⟨#[46]⟩ : ByteArray)).size + (x ++ x).size := by
    rw [ByteArray.size_append, ByteArray.size_append, show (⟨#[46]⟩ : ByteArray).size = 1 from rfl]; omega
  have l3 : ¬ 9223372036854775807 < ((x ++ (⟨#[46]⟩ : ByteArray)) ++ (x ++ x)).size + 1 := by
    rw [ByteArray.size_append, ByteArray.size_append, ByteArray.size_append, show (⟨#[46]⟩ : ByteArray).size = 1 from rfl]; omega
  have l4 : ¬ 9223372036854775807 < x.size + 1 + (x.size + x.size) := by omega
  have l5 : ¬ 9223372036854775807 < x.size + 1 + (x.size + x.size) + 1 := by omega
  clear htab hs hd
  go_enter Tryd.func106, Tryd.ntmps106
  go_wp2_with (first
    | (go_at_call 132; refine HH.out.mono ?_; rintro e w1 ⟨rfl, rfl⟩)
    | (go_at_call 126; refine HP.out.mono ?_; rintro e w1 ⟨rfl, hb1⟩))
  have HB1 := Lib.hid hb1
  have t0 : IntKind.i64.wrap 0 = 0 := by decide
  have t1 : (0 : Int).tdiv 100 = 0 := by decide
  go_region_with (first
    | (go_at_call 126; refine (HQ.out _ (Below.drew HB1.out)).mono ?_; rintro e w2 ⟨rfl, hb2⟩; replace hb2 := (Below.drew HB1.out).trans (hb2.mono HB1.out.size)))
  all_goals (go_wp2_with fail; go_ret2; exact ⟨by rw [← HE.out]; rfl, hb2⟩)
end Go.Proofs.YtgdpfnmmhpcleaaDoor.Num
