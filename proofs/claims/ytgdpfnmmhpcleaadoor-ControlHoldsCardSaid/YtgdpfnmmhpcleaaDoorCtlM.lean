/-
  Plain facts on groups of control bytes, one lane of which is another one.
-/
import Derived.Test.YtgdpfnmmhpcleaaDoorCtlU
set_option linter.unusedVariables false
set_option linter.unusedSimpArgs false
namespace Go.Proofs.YtgdpfnmmhpcleaaDoor.Ctl
open Go.RowKit Kit
open Word hiding tr ret_int bcell
theorem with_cast (n l m : Nat) (hn : n < 18446744073709551616) (hl : l < 8) (hm : m < 256) : withI (n : Int) l (m : Int) = ((WordM.L (fun i => if i = l then m else WordM.ln n i) : Nat) : Int) := by
  rw [putL l m _ hl, WordM.L_ln n hn]
  unfold withI
  rw [lane_nat]
  have hle : WordM.ln n l * 256 ^ l ≤ n := by
    unfold WordM.ln
    exact Nat.le_trans (Nat.mul_le_mul_right _ (Nat.mod_le _ _)) (Nat.div_mul_le_self _ _)
  rw [Int.natCast_add, Int.natCast_sub hle, Int.natCast_mul, Int.natCast_mul, Int.natCast_pow]; rfl
theorem lane_with (x b : Int) (l i : Nat) (hx : U64 x) (hl : l < 8) (hi : i < 8) (b0 : 0 ≤ b) (b1 : b < 256) : lane (withI x l b) i = if i = l then b else lane x i := by
  obtain ⟨n, rfl⟩ := Int.eq_ofNat_of_zero_le hx.1
  obtain ⟨m, rfl⟩ := Int.eq_ofNat_of_zero_le b0
  have hn : n < 18446744073709551616 := by have := hx.2; omega
  have hm : m < 256 := by omega
  rw [with_cast n l m hn hl hm, lane_nat, WordM.ln_L _ (fun j _ => by have := WordM.ln_lt n j; show (if j = l then m else WordM.ln n j) < 256; split <;> omega) i hi, lane_nat]
  split <;> rfl
theorem with_word (x b : Int) (l : Nat) (hx : U64 x) (hl : l < 8) (b0 : 0 ≤ b) (b1 : b < 256) : U64 (withI x l b) := by
  obtain ⟨n, rfl⟩ := Int.eq_ofNat_of_zero_le hx.1
  obtain ⟨m, rfl⟩ := Int.eq_ofNat_of_zero_le b0
  have hn : n < 18446744073709551616 := by have := hx.2; omega
  have hm : m < 256 := by omega
  rw [with_cast n l m hn hl hm]
  have := WordM.L_lt (fun i => if i = l then m else WordM.ln n i) (fun j _ => by have := WordM.ln_lt n j; show (if j = l then m else WordM.ln n j) < 256; split <;> omega)
  exact ⟨by omega, by omega⟩
theorem setI_congr8 (p q : Nat → Bool) (h : ∀ i, i < 8 → p i = q i) : setI p = setI q := by unfold setI; rw [WordM.setN_congr p q h]
theorem va_all (x : Int) : vaB x = true ↔ ∀ i, i < 8 → okL x i = true := by
  unfold vaB
  simp only [Bool.and_eq_true]
  constructor
  · rintro ⟨⟨⟨⟨⟨⟨⟨h0, h1⟩, h2⟩, h3⟩, h4⟩, h5⟩, h6⟩, h7⟩ i hi
    obtain rfl | rfl | rfl | rfl | rfl | rfl | rfl | rfl := eight i hi <;> assumption
  · intro h
    exact ⟨⟨⟨⟨⟨⟨⟨h 0 (by omega), h 1 (by omega)⟩, h 2 (by omega)⟩, h 3 (by omega)⟩, h 4 (by omega)⟩, h 5 (by omega)⟩, h 6 (by omega)⟩, h 7 (by omega)⟩
theorem va_with (x b : Int) (l : Nat) (hx : U64 x) (hl : l < 8) (b0 : 0 ≤ b) (b1 : b < 256) (hv : vaB x = true) (hb : okB b = true) : vaB (withI x l b) = true := by
  rw [va_all] at hv ⊢
  intro i hi
  unfold okL
  rw [lane_with x b l i hx hl hi b0 b1]
  split
  · exact hb
  · exact hv i hi
theorem zero_bits : ∀ p0 p1 p2 p3 p4 p5 p6 p7 : Bool, ((WordM.bit p0 + 2 * (WordM.bit p1 + 2 * (WordM.bit p2 + 2 * (WordM.bit p3 + 2 * (WordM.bit p4 + 2 * (WordM.bit p5 + 2 * (WordM.bit p6 + 2 * WordM.bit p7))))))) == 0) = (!p0 && !p1 && !p2 && !p3 && !p4 && !p5 && !p6 && !p7) := by decide +kernel
theorem setI_zero (p : Nat → Bool) : setI p = 0 ↔ ∀ i, i < 8 → p i = false := by
  have hz := zero_bits (p 0) (p 1) (p 2) (p 3) (p 4) (p 5) (p 6) (p 7)
  unfold setI WordM.setN
  constructor
  · intro h i hi
    have hz' : (!p 0 && !p 1 && !p 2 && !p 3 && !p 4 && !p 5 && !p 6 && !p 7) = true := by rw [← hz, beq_iff_eq]; omega
    simp only [Bool.and_eq_true, Bool.not_eq_true'] at hz'
    obtain ⟨⟨⟨⟨⟨⟨⟨h0, h1⟩, h2⟩, h3⟩, h4⟩, h5⟩, h6⟩, h7⟩ := hz'
    obtain rfl | rfl | rfl | rfl | rfl | rfl | rfl | rfl := eight i hi <;> assumption
  · intro h
    rw [h 0 (by omega), h 1 (by omega), h 2 (by omega), h 3 (by omega), h 4 (by omega), h 5 (by omega), h 6 (by omega), h 7 (by omega)]
    rfl
theorem em_del (x : Int) (l : Nat) (hx : U64 x) (hl : l < 8) (h : emI x = 0) : emI (withI x l 254) = 0 := by
  unfold emI at h ⊢
  rw [setI_zero] at h ⊢
  intro i hi
  rw [lane_with x 254 l i hx hl hi (by omega) (by omega)]
  split
  · rfl
  · exact h i hi
theorem em_emp (x : Int) (l : Nat) (hx : U64 x) (hl : l < 8) : emI (withI x l 128) ≠ 0 := by
  unfold emI
  intro h
  rw [setI_zero] at h
  have := h l hl
  rw [lane_with x 128 l l hx hl hl (by omega) (by omega)] at this
  simp at this
theorem one_bit (l : Nat) (hl : l < 8) : (setI fun i => i == l) = 2 ^ l := by
  obtain rfl | rfl | rfl | rfl | rfl | rfl | rfl | rfl := eight l hl <;> rfl
theorem fr_with (x b : Int) (l : Nat) (hx : U64 x) (hl : l < 8) (hb : b = 128 ∨ b = 254) : frI (withI x l b) = bits .or .u8 (frI x) (2 ^ l) := by
  rw [← one_bit l hl]
  unfold frI
  rw [setI_or]
  refine setI_congr8 _ _ fun i hi => ?_
  rw [lane_with x b l i hx hl hi (by omega) (by omega)]
  by_cases he : i = l
  · subst he
    rcases hb with rfl | rfl <;> simp
  · simp [he]
theorem fr_and (x : Int) : bits .and .u8 (frI x) (fuI x) = 0 := by
  unfold frI fuI
  rw [setI_and, setI_zero]
  intro i hi
  rw [Bool.eq_false_iff]
  intro h
  simp at h
  omega
theorem setI_andNot (p q : Nat → Bool) (h : ∀ i, i < 8 → p i = true → q i = true) : bits .andNot .u8 (setI p) (setI q) = 0 := by
  have key : ∀ p0 p1 p2 p3 : Bool, ∀ q0 q1 q2 q3 : Bool, (p0 = true → q0 = true) → True := fun _ _ _ _ _ _ _ _ _ => trivial
  have e : setI p = bits .and .u8 (setI p) (setI q) := by
    rw [setI_and]
    refine setI_congr8 _ _ fun i hi => ?_
    cases hp : p i
    · rfl
    · rw [h i hi hp]; rfl
  have hn : ∀ n : Nat, n < 256 → ∀ m : Nat, m < 256 → bits .andNot .u8 (bits .and .u8 (n : Int) (m : Int)) (m : Int) = 0 := by decide +kernel
  rw [e]
  exact hn (WordM.setN p) (WordM.setN_lt p) (WordM.setN q) (WordM.setN_lt q)
theorem em_andNot (x : Int) : bits .andNot .u8 (emI x) (frI x) = 0 := setI_andNot _ _ fun i _ h => by
  simp only [h, Bool.true_or]
theorem fr_all (x : Int) (h : vaB x = true) : bits .or .u8 (frI x) (fuI x) = 255 := by
  have h1 := fr_or x
  have h2 := va_eq x
  rw [h, ← h1] at h2
  exact eq_of_beq h2
theorem bit_no (p : Nat → Bool) (k : Nat) (hk : k < 8) (hp : p k = false) : setI p / 2 ^ k % 2 = 0 := by
  have h : WordM.setN p / 2 ^ k % 2 = 0 := by
    have b0 := bit_lt (p 0); have b1 := bit_lt (p 1); have b2 := bit_lt (p 2); have b3 := bit_lt (p 3)
    have b4 := bit_lt (p 4); have b5 := bit_lt (p 5); have b6 := bit_lt (p 6); have b7 := bit_lt (p 7)
    have hb : WordM.bit (p k) = 0 := by rw [hp]; rfl
    unfold WordM.setN
    obtain rfl | rfl | rfl | rfl | rfl | rfl | rfl | rfl := eight k hk
    all_goals (simp only [Nat.reducePow]; omega)
  unfold setI
  have e : (2 ^ k : Int) = ((2 ^ k : Nat) : Int) := by rw [Int.natCast_pow]; rfl
  rw [e, ← Int.natCast_ediv]; omega
theorem ma_with (x c t : Int) (l : Nat) (hx : U64 x) (hl : l < 8) (c0 : 0 ≤ c) (c1 : c < 256) (ht : t < 128) : maI (withI x l c) t / 2 ^ l % 2 = if t = c then 1 else 0 := by
  unfold maI
  rw [if_pos ht]
  have e := lane_with x c l l hx hl hl c0 c1
  rw [if_pos rfl] at e
  by_cases h : t = c
  · rw [if_pos h, setI_bit _ l hl (by rw [e]; simp [h])]
  · rw [if_neg h, bit_no _ l hl (by rw [e]; simp; omega)]
end Go.Proofs.YtgdpfnmmhpcleaaDoor.Ctl
