/-
  Plain facts on the elements of a sequence: every group is met, by one index alone.
-/
import Derived.Test.YtdilhldaipjhoaaProbeT
namespace Go.Proofs.Ytdilhldaipjhoaa.Probe
open Go.RowKit Kit GrowM Grow

theorem atI_nat (pn k i : Nat) : atI (pn : Int) ((2 ^ k : Nat) : Int) (i : Int) = (((pn + ProbeM.tri i) % 2 ^ k : Nat) : Int) := by
  unfold atI ProbeM.tri
  push_cast
  rfl
theorem mod_cases (x n : Nat) (h : x < 2 * n) : (x < n ∧ x % n = x) ∨ (n ≤ x ∧ x % n = x - n) := by
  rcases Nat.lt_or_ge x n with h1 | h1
  · exact .inl ⟨h1, Nat.mod_eq_of_lt h1⟩
  · exact .inr ⟨h1, by rw [Nat.mod_eq_sub_mod h1, Nat.mod_eq_of_lt (by omega)]⟩
theorem at_onto (p : Int) (g : Nat) (hg : pow2 (g : Int) = true) (p0 : 0 ≤ p) (t : Int) (t0 : 0 ≤ t) (t1 : t < g) : ∃ i : Nat, i < g ∧ atI p g i = t ∧ ∀ j : Nat, j < g → atI p g j = t → j = i := by
  obtain ⟨k, hk, e⟩ := (pow2_iff (g : Int)).1 hg
  obtain rfl : g = 2 ^ k := by
    have h2 : ((2 ^ k : Nat) : Int) = (2 : Int) ^ k := by push_cast; rfl
    omega
  clear e hg
  obtain ⟨pn, rfl⟩ := Int.eq_ofNat_of_zero_le p0
  obtain ⟨tn, rfl⟩ := Int.eq_ofNat_of_zero_le t0
  have htn : tn < 2 ^ k := by omega
  have hpm : pn % 2 ^ k < 2 ^ k := Nat.mod_lt _ (by omega)
  obtain ⟨i, hi, e⟩ := ProbeM.tri_onto k (tn + (2 ^ k - pn % 2 ^ k))
  have key : ∀ j : Nat, atI (pn : Int) ((2 ^ k : Nat) : Int) (j : Int) = (tn : Int) ↔ ProbeM.tri j % 2 ^ k = ProbeM.tri i % 2 ^ k := by
    intro j
    rw [atI_nat, e, Nat.add_mod]
    have hj : ProbeM.tri j % 2 ^ k < 2 ^ k := Nat.mod_lt _ (by omega)
    have c1 := mod_cases (pn % 2 ^ k + ProbeM.tri j % 2 ^ k) (2 ^ k) (by omega)
    generalize (pn % 2 ^ k + ProbeM.tri j % 2 ^ k) % 2 ^ k = u at *
    rcases Nat.eq_zero_or_pos (pn % 2 ^ k) with h0 | h0
    · have c2 : (tn + (2 ^ k - pn % 2 ^ k)) % 2 ^ k = tn := by rw [h0, Nat.sub_zero, Nat.add_mod_right, Nat.mod_eq_of_lt htn]
      rw [c2]
      omega
    · have c2 := mod_cases (tn + (2 ^ k - pn % 2 ^ k)) (2 ^ k) (by omega)
      generalize (tn + (2 ^ k - pn % 2 ^ k)) % 2 ^ k = v at *
      omega
  refine ⟨i, hi, (key i).2 rfl, fun j hj he => ProbeM.tri_inj k j i hj hi ((key j).1 he)⟩
theorem at_inj (p : Int) (g : Nat) (hg : pow2 (g : Int) = true) (p0 : 0 ≤ p) (i j : Nat) (hi : i < g) (hj : j < g) (h : atI p g i = atI p g j) : i = j := by
  obtain ⟨a1, _⟩ := pow2_range _ hg
  obtain ⟨r0, r1⟩ := atI_range p g j a1
  obtain ⟨m, _, _, hu⟩ := at_onto p g hg p0 (atI p g j) r0 r1
  rw [hu i hi h, hu j hj rfl]
theorem at_mod (p q g i : Int) (h : p % g = q % g) : atI p g i = atI q g i := by
  unfold atI
  rw [Int.add_emod, h, ← Int.add_emod]
end Go.Proofs.Ytdilhldaipjhoaa.Probe
