/-
  The number of ones of a word, by sums of neighbouring bits.
-/
import Derived.Test.YtohldfhelppehaaBloM
import Derived.WalkKit
namespace Go.Proofs.Ytohldfhelppehaa.Blo
theorem and_split (lo hi m M : Nat) (hl : lo < 256) (hm : m < 256) : (lo + 256 * hi) &&& (m + 256 * M) = (lo &&& m) + 256 * (hi &&& M) := by
  have h1 : ((lo + 256 * hi) &&& (m + 256 * M)) % 256 = lo &&& m := by
    rw [show (256 : Nat) = 2 ^ 8 from rfl, Nat.and_mod_two_pow, show (lo + 2 ^ 8 * hi) % 2 ^ 8 = lo by omega, show (m + 2 ^ 8 * M) % 2 ^ 8 = m by omega]
  have h2 : ((lo + 256 * hi) &&& (m + 256 * M)) / 256 = hi &&& M := by
    rw [show (256 : Nat) = 2 ^ 8 from rfl, Nat.and_div_two_pow, show (lo + 2 ^ 8 * hi) / 2 ^ 8 = hi by omega, show (m + 2 ^ 8 * M) / 2 ^ 8 = M by omega]
  omega
def mk (c : Nat) : Nat → Nat
  | 0 => 0
  | n + 1 => c + 256 * mk c n
def bm (f : Nat → Nat) : Nat → Nat → Nat
  | 0, _ => 0
  | n + 1, x => f (x % 256) + 256 * bm f n (x / 256)
theorem bm_comp (f g : Nat → Nat) (hg : ∀ b, b < 256 → g b < 256) (n : Nat) : ∀ x, bm f n (bm g n x) = bm (fun b => f (g b)) n x := by
  induction n with
  | zero => intro x; rfl
  | succ n ih =>
    intro x
    have := hg (x % 256) (Nat.mod_lt _ (by decide))
    rw [bm, bm, bm, show (g (x % 256) + 256 * bm g n (x / 256)) % 256 = g (x % 256) by omega, show (g (x % 256) + 256 * bm g n (x / 256)) / 256 = bm g n (x / 256) by omega, ih]
theorem bm_congr {f g : Nat → Nat} (h : ∀ b, b < 256 → f b = g b) (n : Nat) : ∀ x, bm f n x = bm g n x := by
  induction n with
  | zero => intro x; rfl
  | succ n ih => intro x; rw [bm, bm, h _ (Nat.mod_lt _ (by decide)), ih]
def f1 (b : Nat) : Nat := (b / 2 &&& 85) + (b &&& 85)
def f2 (b : Nat) : Nat := (b / 4 &&& 51) + (b &&& 51)
def f3 (b : Nat) : Nat := (b / 16 + b) % 16
theorem d1 : ∀ b, b < 256 → ∀ c, c < 2 → (b / 2 + 128 * c) &&& 85 = b / 2 &&& 85 := by decide +kernel
theorem d2 : ∀ b, b < 256 → ∀ c, c < 4 → (b / 4 + 64 * c) &&& 51 = b / 4 &&& 51 := by decide +kernel
theorem d3 : ∀ b, b < 256 → f1 b < 256 ∧ f2 b < 256 ∧ f2 (f1 b) ≤ 68 ∧ f2 (f1 b) % 16 ≤ 4 ∧ f3 (f2 (f1 b)) = Go.Lib.popAux 8 b ∧ Go.Lib.popAux 8 b ≤ 8 := by decide +kernel
theorem step1 (n : Nat) : ∀ x, x < 256 ^ n → (x / 2 &&& mk 85 n) + (x &&& mk 85 n) = bm f1 n x := by
  induction n with
  | zero => intro x hx; simp [mk, bm]
  | succ n ih =>
    intro x hx
    have hy : x / 256 < 256 ^ n := by rw [Nat.pow_succ] at hx; omega
    have := ih (x / 256) hy
    have e1 := d1 (x % 256) (Nat.mod_lt _ (by decide)) (x / 256 % 2) (Nat.mod_lt _ (by decide))
    have a1 := and_split (x % 256) (x / 256) 85 (mk 85 n) (by omega) (by decide)
    have a2 := and_split (x % 256 / 2 + 128 * (x / 256 % 2)) (x / 256 / 2) 85 (mk 85 n) (by omega) (by decide)
    rw [show x % 256 + 256 * (x / 256) = x by omega] at a1
    rw [show x % 256 / 2 + 128 * (x / 256 % 2) + 256 * (x / 256 / 2) = x / 2 by omega, e1] at a2
    rw [mk, bm, a1, a2, ← this, f1]
    omega
theorem step2 (n : Nat) : ∀ x, x < 256 ^ n → (x / 4 &&& mk 51 n) + (x &&& mk 51 n) = bm f2 n x := by
  induction n with
  | zero => intro x hx; simp [mk, bm]
  | succ n ih =>
    intro x hx
    have hy : x / 256 < 256 ^ n := by rw [Nat.pow_succ] at hx; omega
    have := ih (x / 256) hy
    have e1 := d2 (x % 256) (Nat.mod_lt _ (by decide)) (x / 256 % 4) (Nat.mod_lt _ (by decide))
    have a1 := and_split (x % 256) (x / 256) 51 (mk 51 n) (by omega) (by decide)
    have a2 := and_split (x % 256 / 4 + 64 * (x / 256 % 4)) (x / 256 / 4) 51 (mk 51 n) (by omega) (by decide)
    rw [show x % 256 + 256 * (x / 256) = x by omega] at a1
    rw [show x % 256 / 4 + 64 * (x / 256 % 4) + 256 * (x / 256 / 4) = x / 4 by omega, e1] at a2
    rw [mk, bm, a1, a2, ← this, f2]
    omega
def g2 (b : Nat) : Nat := f2 (f1 b)
theorem step3 (n : Nat) : ∀ x, (bm g2 n x / 16 + bm g2 n x) &&& mk 15 n = bm (Go.Lib.popAux 8) n x := by
  induction n with
  | zero => intro x; simp [mk, bm]
  | succ n ih =>
    intro x
    obtain ⟨-, -, h2, -, h4, -⟩ := d3 (x % 256) (Nat.mod_lt _ (by decide))
    have hc : bm g2 n (x / 256) % 16 ≤ 4 := by
      cases n with
      | zero => simp [bm]
      | succ n =>
        have := (d3 (x / 256 % 256) (Nat.mod_lt _ (by decide))).2.2.2.1
        rw [bm]; unfold g2 at this ⊢; omega
    have := ih (x / 256)
    have e : bm g2 (n + 1) x / 16 + bm g2 (n + 1) x = (g2 (x % 256) / 16 + g2 (x % 256) + 16 * (bm g2 n (x / 256) % 16)) + 256 * (bm g2 n (x / 256) / 16 + bm g2 n (x / 256)) := by
      rw [bm]; omega
    rw [e, mk]
    unfold g2
    rw [and_split _ _ 15 _ (by unfold g2 at hc; omega) (by decide)]
    unfold g2 at this
    rw [this, bm, ← h4, f3, show (15 : Nat) = 2 ^ 4 - 1 from rfl, Nat.and_two_pow_sub_one_eq_mod]
    omega
theorem popAux_split (n x : Nat) : Go.Lib.popAux (8 + n) x = Go.Lib.popAux 8 (x % 256) + Go.Lib.popAux n (x / 256) := by
  rw [popAux_cnt, popAux_cnt, popAux_cnt, cnt_add]
  congr 1
  · refine cnt_congr fun j hj => ?_
    rw [show (256 : Nat) = 2 ^ 8 from rfl, Nat.testBit_mod_two_pow]; simp [hj]
  · refine cnt_congr fun j _ => ?_
    rw [show (256 : Nat) = 2 ^ 8 from rfl, Nat.testBit_div_two_pow, Nat.add_comm]
theorem masks : mk 85 8 = 6148914691236517205 ∧ mk 51 8 = 3689348814741910323 ∧ mk 15 8 = 1085102592571150095 := by decide +kernel
theorem bm_lt (f : Nat → Nat) (hf : ∀ b, b < 256 → f b < 256) (n : Nat) : ∀ x, bm f n x < 256 ^ n := by
  induction n with
  | zero => intro x; simp [bm]
  | succ n ih =>
    intro x
    have := hf (x % 256) (Nat.mod_lt _ (by decide))
    have := ih (x / 256)
    rw [bm, Nat.pow_succ]; omega
theorem fin8 (b0 b1 b2 b3 b4 b5 b6 b7 : Nat) (q0 : b0 ≤ 8) (q1 : b1 ≤ 8) (q2 : b2 ≤ 8) (q3 : b3 ≤ 8) (q4 : b4 ≤ 8) (q5 : b5 ≤ 8) (q6 : b6 ≤ 8) (q7 : b7 ≤ 8) (c : Nat)
    (hc : c = b0 + 256 * (b1 + 256 * (b2 + 256 * (b3 + 256 * (b4 + 256 * (b5 + 256 * (b6 + 256 * (b7 + 256 * 0)))))))) :
    (c + c / 256 + (c + c / 256) / 65536 + (c + c / 256 + (c + c / 256) / 65536) / 4294967296) % 128 = b0 + b1 + b2 + b3 + b4 + b5 + b6 + b7 := by
  have z1 : c / 256 = b1 + 256 * (b2 + 256 * (b3 + 256 * (b4 + 256 * (b5 + 256 * (b6 + 256 * b7))))) := by
    rw [hc, Nat.add_mul_div_left _ _ (by decide), Nat.div_eq_of_lt (by omega), Nat.zero_add]
    omega
  rw [z1]
  obtain ⟨y, hy⟩ : ∃ y, y = c + (b1 + 256 * (b2 + 256 * (b3 + 256 * (b4 + 256 * (b5 + 256 * (b6 + 256 * b7)))))) := ⟨_, rfl⟩
  rw [← hy]
  have hy2 : y = (b0 + b1) + 256 * (b1 + b2) + 65536 * ((b2 + b3) + 256 * ((b3 + b4) + 256 * ((b4 + b5) + 256 * ((b5 + b6) + 256 * ((b6 + b7) + 256 * b7))))) := by omega
  have z2 : y / 65536 = (b2 + b3) + 256 * ((b3 + b4) + 256 * ((b4 + b5) + 256 * ((b5 + b6) + 256 * ((b6 + b7) + 256 * b7)))) := by
    rw [hy2, Nat.add_mul_div_left _ _ (by decide), Nat.div_eq_of_lt (by omega), Nat.zero_add]
  have hy3 : y + y / 65536 = (b0 + b1 + b2 + b3) + 256 * (b1 + b2 + b3 + b4) + 65536 * (b2 + b3 + b4 + b5) + 16777216 * (b3 + b4 + b5 + b6) + 4294967296 * ((b4 + b5 + b6 + b7) + 256 * (b5 + b6 + b7) + 65536 * (b6 + b7) + 16777216 * b7) := by
    rw [z2, hy2]; omega
  have z3 : (y + y / 65536) / 4294967296 = (b4 + b5 + b6 + b7) + 256 * (b5 + b6 + b7) + 65536 * (b6 + b7) + 16777216 * b7 := by
    rw [hy3, Nat.add_mul_div_left _ _ (by decide), Nat.div_eq_of_lt (by omega), Nat.zero_add]
  rw [z3, hy3]
  clear z1 z2 z3 hy hy2 hy3 hc
  omega
theorem pop_all (x : Nat) (hx : x < 18446744073709551616) :
    ∃ a b c : Nat, a = (x / 2 &&& 6148914691236517205) + (x &&& 6148914691236517205) ∧ a < 18446744073709551616 ∧ b = (a / 4 &&& 3689348814741910323) + (a &&& 3689348814741910323) ∧ b < 18446744073709551616 ∧
      b / 16 + b < 18446744073709551616 ∧ c = (b / 16 + b) &&& 1085102592571150095 ∧ c ≤ 578721382704613384 ∧
      (c + c / 256 + (c + c / 256) / 65536 + (c + c / 256 + (c + c / 256) / 65536) / 4294967296) % 128 = Go.Lib.onesCount x := by
  obtain ⟨k1, k2, k3⟩ := masks
  have hl1 : bm f1 8 x < 18446744073709551616 := bm_lt f1 (fun b hb => (d3 b hb).1) 8 x
  have hg : bm g2 8 x = bm f2 8 (bm f1 8 x) := (bm_comp f2 f1 (fun b hb => (d3 b hb).1) 8 x).symm
  have s1 := step1 8 x hx
  have s2 := step2 8 (bm f1 8 x) hl1
  have s3 := step3 8 x
  rw [k1] at s1; rw [k2] at s2; rw [k3] at s3
  refine ⟨bm f1 8 x, bm g2 8 x, bm (Go.Lib.popAux 8) 8 x, s1.symm, hl1, by rw [s2, hg], ?_, ?_, s3.symm, ?_, ?_⟩
  · exact bm_lt g2 (fun b hb => by have := (d3 b hb).2.2.1; unfold g2; omega) 8 x
  · have h7 : ∀ n y, bm g2 n y ≤ mk 68 n := by
      intro n
      induction n with
      | zero => intro y; simp [bm, mk]
      | succ n ih =>
        intro y
        have := ih (y / 256)
        have h : g2 (y % 256) ≤ 68 := (d3 (y % 256) (Nat.mod_lt _ (by decide))).2.2.1
        rw [bm, mk]; omega
    have := h7 8 x
    rw [show mk 68 8 = 4919131752989213764 by decide +kernel] at this
    omega
  · have h7 : ∀ n y, bm (Go.Lib.popAux 8) n y ≤ mk 8 n := by
      intro n
      induction n with
      | zero => intro y; simp [bm, mk]
      | succ n ih => intro y; have := ih (y / 256); have := (d3 (y % 256) (Nat.mod_lt _ (by decide))).2.2.2.2.2; rw [bm, mk]; omega
    have := h7 8 x
    rwa [show mk 8 8 = 578721382704613384 by decide +kernel] at this
  · have hp : ∀ y, Go.Lib.popAux 8 (y % 256) ≤ 8 := fun y => (d3 (y % 256) (Nat.mod_lt _ (by decide))).2.2.2.2.2
    have e : Go.Lib.onesCount x = Go.Lib.popAux (8 + (8 + (8 + (8 + (8 + (8 + (8 + (8 + 0)))))))) x := rfl
    rw [e]
    simp only [popAux_split, bm]
    have q0 := hp x; have q1 := hp (x / 256); have q2 := hp (x / 256 / 256); have q3 := hp (x / 256 / 256 / 256)
    have q4 := hp (x / 256 / 256 / 256 / 256); have q5 := hp (x / 256 / 256 / 256 / 256 / 256); have q6 := hp (x / 256 / 256 / 256 / 256 / 256 / 256); have q7 := hp (x / 256 / 256 / 256 / 256 / 256 / 256 / 256)
    generalize Go.Lib.popAux 8 (x % 256) = b0 at *
    generalize Go.Lib.popAux 8 (x / 256 % 256) = b1 at *
    generalize Go.Lib.popAux 8 (x / 256 / 256 % 256) = b2 at *
    generalize Go.Lib.popAux 8 (x / 256 / 256 / 256 % 256) = b3 at *
    generalize Go.Lib.popAux 8 (x / 256 / 256 / 256 / 256 % 256) = b4 at *
    generalize Go.Lib.popAux 8 (x / 256 / 256 / 256 / 256 / 256 % 256) = b5 at *
    generalize Go.Lib.popAux 8 (x / 256 / 256 / 256 / 256 / 256 / 256 % 256) = b6 at *
    generalize Go.Lib.popAux 8 (x / 256 / 256 / 256 / 256 / 256 / 256 / 256 % 256) = b7 at *
    simp only [Go.Lib.popAux]
    rw [fin8 b0 b1 b2 b3 b4 b5 b6 b7 q0 q1 q2 q3 q4 q5 q6 q7 _ rfl]
    omega
/-! ### the places of a key -/
theorem or_one (y : Nat) : y ||| 1 = if y % 2 = 0 then y + 1 else y := by
  have h1 : (y ||| 1) % 2 = 1 := by
    rw [show (2 : Nat) = 2 ^ 1 from rfl, Nat.or_mod_two_pow]
    rcases Nat.mod_two_eq_zero_or_one y with h | h <;> simp [h]
  have h2 : (y ||| 1) / 2 = y / 2 := by
    rw [show (2 : Nat) = 2 ^ 1 from rfl, Nat.or_div_two_pow]; simp
  split <;> omega
/-- the second number of a hash -/
def pb (x : Nat) : Nat := if x / 4294967296 % 2 = 0 then x / 4294967296 + 1 else x / 4294967296
theorem pb_le {x : Nat} (hx : x < 18446744073709551616) : pb x ≤ 4294967296 := by unfold pb; split <;> omega
/-- the places of a key of hash x in a filter of m bits -/
def pl (x m i : Nat) : Nat := (x % 4294967296 + i * pb x) % m
theorem low_bits (x : Nat) (hx : x < 18446744073709551616) : Go.bits .and .u64 (x : Int) 4294967295 = ((x % 4294967296 : Nat) : Int) := by
  rw [show (4294967295 : Int) = ((4294967295 : Nat) : Int) from rfl, Go.u64_and_nat _ _ hx (by decide), show (4294967295 : Nat) = 2 ^ 32 - 1 from rfl, Nat.and_two_pow_sub_one_eq_mod]
theorem high_bits (x : Nat) (hx : x < 18446744073709551616) : Go.bits .or .u64 ((x / 4294967296 : Nat) : Int) 1 = ((pb x : Nat) : Int) := by
  rw [show (1 : Int) = ((1 : Nat) : Int) from rfl, Go.u64_or_nat _ _ (by omega) (by decide), or_one]
  rfl
theorem prod_le {x i : Nat} (hx : x < 18446744073709551616) (hi : i ≤ 8) : i * pb x ≤ 34359738368 := by
  have := Nat.mul_le_mul hi (pb_le hx)
  omega
theorem pl_lt {x m i : Nat} (hm : 0 < m) : pl x m i < m := Nat.mod_lt _ hm
def pls (x m h : Nat) : List Nat := (List.range h).map (pl x m)
theorem pls_succ (x m h : Nat) : pls x m (h + 1) = pls x m h ++ [pl x m h] := by
  unfold pls; rw [List.range_succ, List.map_append]; rfl
theorem pls_length (x m h : Nat) : (pls x m h).length = h := by simp [pls]
end Go.Proofs.Ytohldfhelppehaa.Blo
