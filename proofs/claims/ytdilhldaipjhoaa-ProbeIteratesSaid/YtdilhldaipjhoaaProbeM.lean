/-
  Plain facts on triangular numbers modulo a power of two. No program is imported.
-/
namespace Go.Proofs.Ytdilhldaipjhoaa.ProbeM

def tri (i : Nat) : Nat := i * (i + 1) / 2
theorem tri_even (i : Nat) : 2 * tri i = i * (i + 1) := by
  unfold tri
  have : i * (i + 1) % 2 = 0 := by
    rcases Nat.mod_two_eq_zero_or_one i with h | h
    · rw [Nat.mul_mod, h]; simp
    · rw [Nat.mul_mod, Nat.add_mod, h]
  omega
/-- the other half of the sequence: i' = 2^(k+1) - 1 - i -/
theorem tri_other (k i : Nat) (h : i < 2 ^ k) : (tri (2 ^ (k + 1) - 1 - i)) % 2 ^ (k + 1) = (tri i + 2 ^ k) % 2 ^ (k + 1) := by
  generalize hN : 2 ^ k = N at h
  have hP : 2 ^ (k + 1) = 2 * N := by rw [Nat.pow_succ, hN]; omega
  rw [hP]
  obtain ⟨j, hj⟩ : ∃ j, 2 * N - 1 - i = j := ⟨_, rfl⟩
  have hs : i + j + 1 = 2 * N := by omega
  rw [hj]
  have e1 := tri_even i
  have e2 := tri_even j
  -- j(j+1) + 2N(2i+1) = 4N² + i(i+1)
  have e3 : j * (j + 1) + 2 * N * (2 * i + 1) = 2 * N * (2 * N) + i * (i + 1) := by
    rw [← hs]
    grind
  have e4 : tri j + N * (2 * i + 1) = 2 * N * N + tri i := by
    have a : 2 * N * (2 * i + 1) = 2 * (N * (2 * i + 1)) := Nat.mul_assoc _ _ _
    have b : 2 * N * (2 * N) = 2 * (2 * N * N) := by rw [Nat.mul_assoc 2 N (2 * N), Nat.mul_left_comm N 2 N, Nat.mul_assoc 2 N N]
    omega
  have e5 : tri j + 2 * N * (i + 1) = (tri i + N) + 2 * N * N := by
    have a : 2 * N * (i + 1) = N * (2 * i + 1) + N := by rw [show N * (2 * i + 1) + N = N * (2 * i + 1 + 1) from (Nat.mul_succ _ _).symm, Nat.mul_comm 2 N, Nat.mul_assoc]; congr 1
    omega
  have := congrArg (· % (2 * N)) e5
  simpa [Nat.add_mul_mod_self_left] using this
/-- every target is met -/
theorem tri_onto (k t : Nat) : ∃ i, i < 2 ^ k ∧ tri i % 2 ^ k = t % 2 ^ k := by
  induction k with
  | zero => exact ⟨0, by simp, by simp [Nat.mod_one]⟩
  | succ k ih =>
    obtain ⟨i, hi, e⟩ := ih
    have hp : 2 ^ (k + 1) = 2 * 2 ^ k := by rw [Nat.pow_succ]; omega
    have hpos : 0 < 2 ^ k := Nat.pow_pos (by decide)
    by_cases h : tri i % 2 ^ (k + 1) = t % 2 ^ (k + 1)
    · exact ⟨i, by omega, h⟩
    · refine ⟨2 ^ (k + 1) - 1 - i, by omega, ?_⟩
      rw [tri_other k i hi]
      have m1 : tri i % 2 ^ (k + 1) % 2 ^ k = tri i % 2 ^ k := Nat.mod_mod_of_dvd _ ⟨2, by omega⟩
      have m2 : t % 2 ^ (k + 1) % 2 ^ k = t % 2 ^ k := Nat.mod_mod_of_dvd _ ⟨2, by omega⟩
      rw [Nat.add_mod]
      have la : tri i % 2 ^ (k + 1) < 2 ^ (k + 1) := Nat.mod_lt _ (by omega)
      have lb : t % 2 ^ (k + 1) < 2 ^ (k + 1) := Nat.mod_lt _ (by omega)
      have e2 : tri i % 2 ^ (k + 1) % 2 ^ k = t % 2 ^ (k + 1) % 2 ^ k := by rw [m1, m2, e]
      rw [Nat.mod_eq_of_lt (show 2 ^ k < 2 ^ (k + 1) by omega)]
      generalize tri i % 2 ^ (k + 1) = a at *
      generalize t % 2 ^ (k + 1) = b at *
      rw [hp] at *
      generalize 2 ^ k = N at *
      clear m1 m2 e hp
      have ca : a < N ∨ N ≤ a := Nat.lt_or_ge _ _
      have cb : b < N ∨ N ≤ b := Nat.lt_or_ge _ _
      have ra : N ≤ a → a % N = a - N := fun h => by rw [Nat.mod_eq_sub_mod h, Nat.mod_eq_of_lt (by omega)]
      have rb : N ≤ b → b % N = b - N := fun h => by rw [Nat.mod_eq_sub_mod h, Nat.mod_eq_of_lt (by omega)]
      have sa : a < N → a % N = a := Nat.mod_eq_of_lt
      have sb : b < N → b % N = b := Nat.mod_eq_of_lt
      have big : 2 * N ≤ a + N → (a + N) % (2 * N) = a + N - 2 * N := fun h => by rw [Nat.mod_eq_sub_mod h, Nat.mod_eq_of_lt (by omega)]
      have small : a + N < 2 * N → (a + N) % (2 * N) = a + N := Nat.mod_eq_of_lt
      omega
/-- and by one index alone -/
theorem tri_inj (k i j : Nat) (hi : i < 2 ^ k) (hj : j < 2 ^ k) (h : tri i % 2 ^ k = tri j % 2 ^ k) : i = j := by
  have key : ∀ a b : Nat, a ≤ b → a < 2 ^ k → b < 2 ^ k → tri a % 2 ^ k = tri b % 2 ^ k → a = b := by
    intro a b hab ha hb h
    obtain ⟨d, rfl⟩ : ∃ d, b = a + d := ⟨b - a, by omega⟩
    have e1 := tri_even a
    have e2 := tri_even (a + d)
    have e3 : (a + d) * (a + d + 1) = a * (a + 1) + d * (2 * a + d + 1) := by grind
    have hd : 2 * 2 ^ k ∣ d * (2 * a + d + 1) := by
      have hle : 0 ≤ d * (2 * a + d + 1) := Nat.zero_le _
      have h1 : 2 ^ k ∣ tri (a + d) - tri a := Nat.dvd_of_mod_eq_zero (Nat.sub_mod_eq_zero_of_mod_eq h.symm)
      obtain ⟨m, hm⟩ := h1
      exact ⟨m, by rw [Nat.mul_assoc, ← hm]; omega⟩
    rcases Nat.mod_two_eq_zero_or_one d with hd2 | hd2
    · have hc : Nat.Coprime (2 * 2 ^ k) (2 * a + d + 1) := by
        rw [show 2 * 2 ^ k = 2 ^ (k + 1) from by rw [Nat.pow_succ]; omega]
        refine Nat.Coprime.pow_left _ ?_
        unfold Nat.Coprime
        rw [Nat.gcd_rec, show (2 * a + d + 1) % 2 = 1 by omega]
        rfl
      rcases Nat.eq_zero_or_pos d with h0 | h0
      · omega
      · have := Nat.le_of_dvd h0 (hc.dvd_of_dvd_mul_right hd)
        omega
    · have hc : Nat.Coprime (2 * 2 ^ k) d := by
        rw [show 2 * 2 ^ k = 2 ^ (k + 1) from by rw [Nat.pow_succ]; omega]
        refine Nat.Coprime.pow_left _ ?_
        unfold Nat.Coprime
        rw [Nat.gcd_rec, hd2]
        rfl
      have := Nat.le_of_dvd (by omega) (hc.dvd_of_dvd_mul_left hd)
      omega
  rcases Nat.le_total i j with hij | hij
  · exact key i j hij hi hj h
  · exact (key j i hij hj hi h.symm).symm
end Go.Proofs.Ytdilhldaipjhoaa.ProbeM
