/-
  Plain facts on powers of two, doubling loops, and the numbers of layers 6 and 8. No program is imported.
-/
import Derived.Laws.BitsAllLaws
import Derived.Laws.Bits64
import Derived.WalkKit
namespace Go.Proofs.Ytdilhldaipjhoaa.GrowM

theorem ofInt_i64 (a : Nat) (ha : a < 9223372036854775808) : (BitVec.ofInt 64 (a : Int)).toNat = a := by
  rw [BitVec.ofInt_natCast, BitVec.toNat_ofNat]; exact Nat.mod_eq_of_lt (by omega)
theorem i64_and_nat (a b : Nat) (ha : a < 9223372036854775808) (hb : b < 9223372036854775808) : bits .and .i64 (a : Int) (b : Int) = ((a &&& b : Nat) : Int) := by
  have h : a &&& b < 9223372036854775808 := Nat.lt_of_le_of_lt Nat.and_le_left ha
  show IntKind.i64.wrap ((BitVec.ofInt 64 (a : Int) &&& BitVec.ofInt 64 (b : Int)).toNat : Int) = _
  rw [BitVec.toNat_and, ofInt_i64 a ha, ofInt_i64 b hb, IntKind.wrap_i64]; omega

theorem and_two' (a A b B : Nat) (ha : a < 2) (hb : b < 2) : (a + 2 * A) &&& (b + 2 * B) = (a &&& b) + 2 * (A &&& B) := by
  have h1 : ((a + 2 * A) &&& (b + 2 * B)) % 2 ^ 1 = (a &&& b) := by
    rw [Nat.and_mod_two_pow, show (a + 2 * A) % 2 ^ 1 = a by omega, show (b + 2 * B) % 2 ^ 1 = b by omega]
  have h2 : ((a + 2 * A) &&& (b + 2 * B)) / 2 ^ 1 = (A &&& B) := by
    rw [Nat.and_div_two_pow, show (a + 2 * A) / 2 ^ 1 = A by omega, show (b + 2 * B) / 2 ^ 1 = B by omega]
  rw [← Nat.mod_add_div ((a + 2 * A) &&& (b + 2 * B)) (2 ^ 1), h1, h2]

/-- g and g - 1 have no bit in common: g is a power of two -/
theorem and_pred (g : Nat) (h : 1 ≤ g) : g &&& (g - 1) = 0 ↔ ∃ k, g = 2 ^ k := by
  induction g using Nat.strongRecOn with
  | ind g ih =>
    by_cases he : g % 2 = 0
    · have h2 : 1 ≤ g / 2 := by omega
      have e : g &&& (g - 1) = 2 * (g / 2 &&& (g / 2 - 1)) := by
        have := and_two' 0 (g / 2) 1 (g / 2 - 1) (by decide) (by decide)
        rw [show 0 + 2 * (g / 2) = g by omega, show 1 + 2 * (g / 2 - 1) = g - 1 by omega] at this
        rw [this]; simp
      rw [e]
      constructor
      · intro h0
        obtain ⟨k, hk⟩ := (ih (g / 2) (by omega) h2).1 (by omega)
        exact ⟨k + 1, by rw [Nat.pow_succ]; omega⟩
      · rintro ⟨k, hk⟩
        cases k with
        | zero => omega
        | succ k =>
          rw [Nat.pow_succ] at hk
          have := (ih (g / 2) (by omega) h2).2 ⟨k, by omega⟩
          omega
    · have e : g &&& (g - 1) = 2 * (g / 2) := by
        have := and_two' 1 (g / 2) 0 (g / 2) (by decide) (by decide)
        rw [show 1 + 2 * (g / 2) = g by omega, show 0 + 2 * (g / 2) = g - 1 by omega] at this
        rw [this]; simp
      rw [e]
      constructor
      · intro h0; exact ⟨0, by simp; omega⟩
      · rintro ⟨k, hk⟩
        cases k with
        | zero => omega
        | succ k => rw [Nat.pow_succ] at hk; omega

/-- the numbers of groups that are allowed -/
def pow2 (g : Int) : Bool := (List.range 21).any fun k => g == 2 ^ k
theorem pow2_iff (g : Int) : pow2 g = true ↔ ∃ k : Nat, k ≤ 20 ∧ g = 2 ^ k := by
  unfold pow2
  rw [List.any_eq_true]
  constructor
  · rintro ⟨k, hk, h⟩; exact ⟨k, by rw [List.mem_range] at hk; omega, by simpa using h⟩
  · rintro ⟨k, hk, h⟩; exact ⟨k, by rw [List.mem_range]; omega, by simpa using h⟩
theorem pow_cast (k : Nat) : (2 ^ k : Int) = ((2 ^ k : Nat) : Int) := by rw [Int.natCast_pow]; rfl
theorem pow_pos' (k : Nat) : 0 < (2 : Int) ^ k := Int.pow_pos (by decide)
theorem pow_le (a b : Nat) (h : a ≤ b) : (2 : Int) ^ a ≤ 2 ^ b := by
  rw [pow_cast, pow_cast]; exact Int.ofNat_le.2 (Nat.pow_le_pow_right (by decide) h)
theorem pow_lt (a b : Nat) (h : a < b) : (2 : Int) ^ a < 2 ^ b := by
  rw [pow_cast, pow_cast]; exact Int.ofNat_lt.2 (Nat.pow_lt_pow_right (by decide) h)
theorem pow2_range (g : Int) (h : pow2 g = true) : 1 ≤ g ∧ g ≤ 1048576 := by
  obtain ⟨k, hk, rfl⟩ := (pow2_iff g).1 h
  have h1 := pow_le 0 k (Nat.zero_le _)
  have h2 := pow_le k 20 hk
  simp only [Int.reducePow] at h1 h2
  exact ⟨h1, h2⟩
/-- what Valid asks -/
theorem pow2_and (g : Int) (h1 : 1 ≤ g) (h2 : g ≤ 1048576) : (bits .and .i64 g (g - 1) == 0) = pow2 g := by
  obtain ⟨n, rfl⟩ := Int.eq_ofNat_of_zero_le (by omega : 0 ≤ g)
  have e : ((n : Int) - 1) = ((n - 1 : Nat) : Int) := by omega
  rw [e, i64_and_nat _ _ (by omega) (by omega)]
  rw [Bool.eq_iff_iff, pow2_iff]
  have hp := and_pred n (by omega)
  constructor
  · intro h
    have h0 : n &&& (n - 1) = 0 := by simpa using h
    obtain ⟨k, hk⟩ := hp.1 h0
    refine ⟨k, ?_, by rw [pow_cast, hk]⟩
    rcases Nat.lt_or_ge 20 k with hgt | hle
    · have := Nat.pow_lt_pow_right (a := 2) (by decide) hgt
      omega
    · exact hle
  · rintro ⟨k, _, hk⟩
    have := hp.2 ⟨k, by rw [pow_cast] at hk; omega⟩
    simp [this]

/-- 'for c * n < t { n *= 2 }', at most so many rounds -/
def up (c t : Int) : Nat → Int → Int
  | 0, n => n
  | f + 1, n => if c * n < t then up c t f (2 * n) else n
theorem up_stop (c t : Int) (f : Nat) (n : Int) (h : ¬ c * n < t) : up c t f n = n := by
  cases f with
  | zero => rfl
  | succ f => simp [up, h]
theorem up_step (c t : Int) (f : Nat) (n : Int) (h : c * n < t) : up c t (f + 1) n = up c t f (2 * n) := by simp [up, h]
/-- it is a power of two times n, and the first that serves -/
theorem up_spec (c t : Int) (f : Nat) (n : Int) (hend : t ≤ c * (2 ^ f * n)) : ∃ k, k ≤ f ∧ up c t f n = 2 ^ k * n ∧ t ≤ c * (2 ^ k * n) ∧ (0 < k → c * (2 ^ (k - 1) * n) < t) := by
  induction f generalizing n with
  | zero => exact ⟨0, Nat.le_refl _, by simp [up], by simpa using hend, fun h => absurd h (by omega)⟩
  | succ f ih =>
    by_cases h : c * n < t
    · obtain ⟨k, hk, e, h1, h2⟩ := ih (2 * n) (by
        have : (2 : Int) ^ f * (2 * n) = 2 ^ (f + 1) * n := by rw [Int.pow_succ, Int.mul_assoc]
        rw [this]; exact hend)
      have e2 : ∀ j : Nat, (2 : Int) ^ j * (2 * n) = 2 ^ (j + 1) * n := fun j => by rw [Int.pow_succ, Int.mul_assoc]
      refine ⟨k + 1, by omega, by rw [up_step _ _ _ _ h, e, e2], by rw [← e2]; exact h1, fun _ => ?_⟩
      cases k with
      | zero => simpa using h
      | succ k => have := h2 (by omega); rw [e2] at this; simpa using this
    · exact ⟨0, by omega, by rw [up_stop _ _ _ _ h]; simp, by simp; omega, fun h => absurd h (by omega)⟩
end Go.Proofs.Ytdilhldaipjhoaa.GrowM
