/-
  Sets of places as words of 64 bits: plain facts on numbers.
-/
import Derived.Lib.BitFns
import Derived.Deep.RegionWith
namespace Go.Proofs.Ytohldfhelppehaa.Blo
/-- the number whose bits are f 0, .., f (m - 1) -/
def natOf (f : Nat → Bool) : Nat → Nat
  | 0 => 0
  | m + 1 => natOf f m + (if f m then 2 ^ m else 0)
theorem natOf_lt (f : Nat → Bool) (m : Nat) : natOf f m < 2 ^ m := by
  induction m with
  | zero => simp [natOf]
  | succ m ih => rw [natOf, Nat.pow_succ]; split <;> omega
theorem testBit_natOf (f : Nat → Bool) (m j : Nat) (h : j < m) : (natOf f m).testBit j = f j := by
  induction m with
  | zero => omega
  | succ m ih =>
    have hl := natOf_lt f m
    rw [natOf]
    rcases Nat.lt_or_ge j m with h1 | h1
    · by_cases hf : f m
      · rw [if_pos hf, Nat.add_comm, Nat.testBit_two_pow_add_gt h1]; exact ih h1
      · rw [if_neg hf]; exact ih h1
    · obtain rfl : j = m := by omega
      by_cases hf : f j
      · rw [if_pos hf, Nat.add_comm, Nat.testBit_two_pow_add_eq, Nat.testBit_lt_two_pow hl]; simp [hf]
      · rw [if_neg hf, Nat.add_zero, Nat.testBit_lt_two_pow hl]; simp [hf]
theorem natOf_ext {f : Nat → Bool} {m x : Nat} (hx : x < 2 ^ m) (h : ∀ j, j < m → x.testBit j = f j) : x = natOf f m := by
  apply Nat.eq_of_testBit_eq
  intro j
  rcases Nat.lt_or_ge j m with h1 | h1
  · rw [h j h1, testBit_natOf f m j h1]
  · have h2 := Nat.pow_le_pow_right (n := 2) (by decide) h1
    rw [Nat.testBit_lt_two_pow (Nat.lt_of_lt_of_le hx h2), Nat.testBit_lt_two_pow (Nat.lt_of_lt_of_le (natOf_lt f m) h2)]
theorem natOf_congr {f g : Nat → Bool} {m : Nat} (h : ∀ j, j < m → f j = g j) : natOf f m = natOf g m :=
  natOf_ext (natOf_lt f m) fun j hj => (testBit_natOf f m j hj).trans (h j hj)
/-- word i of a set -/
def wd (s : Nat → Bool) (i : Nat) : Nat := natOf (fun j => s (64 * i + j)) 64
theorem wd_lt (s : Nat → Bool) (i : Nat) : wd s i < 18446744073709551616 := natOf_lt _ 64
theorem wd_empty (i : Nat) : wd (fun _ => false) i = 0 := (natOf_ext (x := 0) (by decide) (by simp)).symm
/-- a place is added -/
def ins (s : Nat → Bool) (p : Nat) : Nat → Bool := fun k => k == p || s k
theorem wd_ins_same (s : Nat → Bool) (p : Nat) : wd (ins s p) (p / 64) = wd s (p / 64) ||| 2 ^ (p % 64) := by
  symm
  refine natOf_ext ?_ fun j hj => ?_
  · exact Nat.or_lt_two_pow (natOf_lt _ 64) (Nat.pow_lt_pow_right (by decide) (Nat.mod_lt _ (by decide)))
  · rw [Nat.testBit_or, show (wd s (p / 64)).testBit j = _ from testBit_natOf _ 64 j hj, Nat.testBit_two_pow]
    unfold ins
    by_cases h : p % 64 = j
    · have : 64 * (p / 64) + j = p := by omega
      simp [h, this]
    · have : ¬ 64 * (p / 64) + j = p := by omega
      simp [h, this]
theorem wd_ins_other (s : Nat → Bool) (p i : Nat) (h : i ≠ p / 64) : wd (ins s p) i = wd s i := by
  refine natOf_congr fun j hj => ?_
  unfold ins
  have : ¬ 64 * i + j = p := by omega
  simp [this]
theorem wd_or (s t : Nat → Bool) (i : Nat) : wd (fun k => s k || t k) i = wd s i ||| wd t i := by
  symm
  refine natOf_ext (Nat.or_lt_two_pow (natOf_lt _ 64) (natOf_lt _ 64)) fun j hj => ?_
  rw [Nat.testBit_or, show (wd s i).testBit j = _ from testBit_natOf _ 64 j hj, show (wd t i).testBit j = _ from testBit_natOf _ 64 j hj]
theorem wd_bit (s : Nat → Bool) (p : Nat) : wd s (p / 64) / 2 ^ (p % 64) % 2 = if s p then 1 else 0 := by
  have h : (wd s (p / 64)).testBit (p % 64) = s p := by
    rw [show (wd s (p / 64)).testBit (p % 64) = _ from testBit_natOf _ 64 _ (Nat.mod_lt _ (by decide))]
    congr 1; omega
  rw [Nat.testBit_eq_decide_div_mod_eq] at h
  by_cases hs : s p
  · rw [if_pos hs]; rw [hs] at h; simpa using h
  · rw [if_neg hs]; simp at hs; rw [hs] at h; have := of_decide_eq_false h; omega
/-- how many -/
def cnt (f : Nat → Bool) : Nat → Nat
  | 0 => 0
  | m + 1 => cnt f m + (if f m then 1 else 0)
theorem cnt_le (f : Nat → Bool) (m : Nat) : cnt f m ≤ m := by
  induction m with
  | zero => simp [cnt]
  | succ m ih => rw [cnt]; split <;> omega
theorem cnt_congr {f g : Nat → Bool} {m : Nat} (h : ∀ j, j < m → f j = g j) : cnt f m = cnt g m := by
  induction m with
  | zero => rfl
  | succ m ih => rw [cnt, cnt, ih fun j hj => h j (by omega), h m (by omega)]
theorem cnt_add (f : Nat → Bool) (a b : Nat) : cnt f (a + b) = cnt f a + cnt (fun j => f (a + j)) b := by
  induction b with
  | zero => simp [cnt]
  | succ b ih => rw [← Nat.add_assoc, cnt, ih, cnt]; omega
theorem cnt_first (f : Nat → Bool) (m : Nat) : cnt f (m + 1) = (if f 0 then 1 else 0) + cnt (fun j => f (j + 1)) m := by
  rw [Nat.add_comm m 1, cnt_add]; simp [cnt, Nat.add_comm]
theorem popAux_cnt (m : Nat) : ∀ x, Go.Lib.popAux m x = cnt x.testBit m := by
  induction m with
  | zero => intro x; rfl
  | succ m ih =>
    intro x
    rw [cnt_first, Go.Lib.popAux, ih]
    have h1 : cnt (x / 2).testBit m = cnt (fun j => x.testBit (j + 1)) m := cnt_congr fun j _ => by rw [Nat.testBit_succ]
    rw [h1, Nat.testBit_zero]
    rcases Nat.mod_two_eq_zero_or_one x with h | h <;> simp [h]
theorem ones_wd (s : Nat → Bool) (i : Nat) : Go.Lib.onesCount (wd s i) = cnt (fun j => s (64 * i + j)) 64 := by
  rw [Go.Lib.onesCount, popAux_cnt]
  exact cnt_congr fun j hj => testBit_natOf _ 64 j hj
theorem cnt_words (s : Nat → Bool) (m : Nat) : cnt s (64 * (m + 1)) = cnt s (64 * m) + Go.Lib.onesCount (wd s m) := by
  rw [ones_wd, show 64 * (m + 1) = 64 * m + 64 by omega, cnt_add]
theorem cnt_mono {s t : Nat → Bool} {m : Nat} (h : ∀ k, k < m → s k = true → t k = true) : cnt s m ≤ cnt t m := by
  induction m with
  | zero => simp [cnt]
  | succ m ih =>
    have := ih fun k hk => h k (by omega)
    have h1 := h m (by omega)
    rw [cnt, cnt]
    by_cases hs : s m
    · simp [hs, h1 hs]; exact this
    · simp [hs]; omega
theorem cnt_eq_of_mono {s t : Nat → Bool} {m : Nat} (h : ∀ k, k < m → s k = true → t k = true) (he : cnt s m = cnt t m) : ∀ k, k < m → s k = t k := by
  induction m with
  | zero => intro k hk; omega
  | succ m ih =>
    have hm := cnt_mono fun k (hk : k < m) => h k (by omega)
    have h1 := h m (by omega)
    rw [cnt, cnt] at he
    have h2 : cnt s m = cnt t m ∧ s m = t m := by
      cases hs : s m <;> cases ht : t m <;> simp [hs, ht] at he h1 <;> simp <;> omega
    intro k hk
    rcases Nat.lt_or_ge k m with h3 | h3
    · exact ih (fun k hk => h k (by omega)) h2.1 k h3
    · obtain rfl : k = m := by omega
      exact h2.2
theorem cnt_ins (s : Nat → Bool) (p m : Nat) : cnt (ins s p) m ≤ cnt s m + 1 := by
  induction m with
  | zero => simp [cnt]
  | succ m ih =>
    rw [cnt, cnt]
    by_cases h : m = p
    · subst h
      have : cnt (ins s m) m = cnt s m := cnt_congr fun j hj => by unfold ins; simp; omega
      rw [this]; split <;> split <;> omega
    · have : ins s p m = s m := by unfold ins; simp [h]
      rw [this]; omega
/-- places are added -/
def insL (s : Nat → Bool) (l : List Nat) : Nat → Bool := l.foldl ins s
theorem insL_mem (s : Nat → Bool) (l : List Nat) (k : Nat) : insL s l k = (l.contains k || s k) := by
  unfold insL
  induction l generalizing s with
  | nil => simp
  | cons p l ih => rw [List.foldl_cons, ih]; unfold ins; by_cases h : k = p <;> by_cases h2 : k ∈ l <;> simp [h, h2]
theorem insL_snoc (s : Nat → Bool) (l : List Nat) (p : Nat) : insL s (l ++ [p]) = ins (insL s l) p := by
  unfold insL; rw [List.foldl_append]; rfl
theorem cnt_insL (s : Nat → Bool) (l : List Nat) (m : Nat) : cnt (insL s l) m ≤ cnt s m + l.length := by
  induction l generalizing s with
  | nil => simp [insL]
  | cons p l ih =>
    have := ih (ins s p)
    have := cnt_ins s p m
    rw [show insL s (p :: l) = insL (ins s p) l from rfl, List.length_cons]; omega
end Go.Proofs.Ytohldfhelppehaa.Blo
