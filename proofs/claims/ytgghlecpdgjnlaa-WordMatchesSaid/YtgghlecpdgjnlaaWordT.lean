/-
  Walks over package word (layer 1), fourth part: the laws WordLanes, WordLoads and WordHolds.
-/
import Derived.Test.YtgghlecpdgjnlaaWordU
import Derived.ProofKit
import Derived.OpenShut
namespace Go.Proofs.Ytgghlecpdgjnlaa.Word
open Go.RowKit Kit Go.Shelf

set_option maxHeartbeats 1000000 in
theorem lanes_any (x l b : Int) (h0 : 0 ≤ x) (h1 : x < 18446744073709551616) (hb0 : 0 ≤ b) (hb1 : b < 256) (w : World) :
    Calls Try.prog 4 #[.int .u64 x, .int .i64 l, .int .u8 b] w fun e w' => e = .returned (.bool true) ∧ Below w.heap.size w w' := by
  by_cases hl : 0 ≤ l ∧ l < 8
  · obtain ⟨l0, l1⟩ := hl
    obtain ⟨n, rfl⟩ := Int.eq_ofNat_of_zero_le l0
    have k1 := with_any x n b h0 h1 l0 l1 hb0 hb1
    have k2 := rwith_any x n b h0 h1 l0 l1 hb0 hb1
    have k3 := lane_any x n h0 h1 l0 l1
    rw [Int.toNat_natCast] at k1 k2 k3
    have k4 := rlane_any x n h0 h1 (by omega)
    generalize withI x n b = r at k1 k2
    generalize lane x n = y at k3 k4
    have K1 := Lib.hid k1; have K2 := Lib.hid k2; have K3 := Lib.hid k3; have K4 := Lib.hid k4
    clear k1 k2 k3 k4
    go_enter Try.func4, Try.ntmps4
    go_wp2_with fail
    refine (K1.out _).mono ?_
    rintro e w1 ⟨rfl, b1⟩
    go_wp2_with fail
    refine (K2.out _).mono ?_
    rintro e w2 ⟨rfl, b2⟩
    go_wp2_with fail
    refine (K3.out _).mono ?_
    rintro e w3 ⟨rfl, rfl⟩
    go_wp2_with fail
    refine (K4.out _).mono ?_
    rintro e w3 ⟨rfl, rfl⟩
    go_wp2_with fail
    refine (known_any _).mono ?_
    rintro e w3 ⟨rfl, b3⟩
    go_wp2_with fail
    go_ret
    exact ⟨rfl, tr (tr b1 b2) b3⟩
  · have ho : l < 0 ∨ 8 ≤ l := by omega
    have K1 := Lib.hid (with_out x l b ho); have K2 := Lib.hid (rwith_out x l b ho); have K3 := Lib.hid (lane_out x l ho)
    clear hl ho
    go_enter Try.func4, Try.ntmps4
    go_wp2_with fail
    refine (K1.out _).mono ?_
    rintro e w1 ⟨rfl, rfl⟩
    go_wp2_with fail
    refine (K2.out _).mono ?_
    rintro e w2 ⟨rfl, rfl⟩
    go_wp2_with fail
    refine (K3.out _).mono ?_
    rintro e w3 ⟨rfl, rfl⟩
    go_wp2_with fail
    refine (known_any _).mono ?_
    rintro e w3 ⟨rfl, b3⟩
    go_wp2_with fail
    go_ret
    exact ⟨rfl, b3⟩

theorem arr8 (w : World) (a0 a1 a2 a3 a4 a5 a6 a7 : Int) :
    (Op.equalIn 10000 30 (.agg #[.int .u8 a0, .int .u8 a1, .int .u8 a2, .int .u8 a3, .int .u8 a4, .int .u8 a5, .int .u8 a6, .int .u8 a7]) (.agg #[.int .u8 a0, .int .u8 a1, .int .u8 a2, .int .u8 a3, .int .u8 a4, .int .u8 a5, .int .u8 a6, .int .u8 a7])).run Try.prog w = .ok true w := by
  have e : ∀ (a b : Int) (w : World), (Op.equalIn 9999 5 (.int .u8 a) (.int .u8 b)).run Try.prog w = .ok (a == b) w := fun a b w => run_equalIn_int w 9998 5 .u8 .u8 a b Try.underlying5
  rw [show (10000 : Nat) = 9999 + 1 from rfl, Op.equalIn]
  simp [run_underlying Try.underlying30, List.range', part, isAgg, run_underlying Try.underlying5, e]

theorem loads_long (a : Option Addr) (len cap : Nat) (x c : Int) (w : World) (hl : 40 < len) :
    Calls Try.prog 3 #[.slice a len cap, .int .u64 x, .int .u8 c] w fun e w' => e = .returned (.bool true) ∧ Below w.heap.size w w' := by
  go_enter Try.func3, Try.ntmps3
  go_wp2_with fail
  refine (known_any _).mono ?_
  rintro e w1 ⟨rfl, b1⟩
  go_wp2_with fail
  go_ret
  exact ⟨rfl, b1⟩

set_option maxHeartbeats 1000000 in
theorem loads_short (a : Option Addr) (len cap : Nat) (x c : Int) (h0 : 0 ≤ x) (h1 : x < 18446744073709551616) (hc0 : 0 ≤ c) (hc1 : c < 256) (w : World) (hl : len < 8) :
    Calls Try.prog 3 #[.slice a len cap, .int .u64 x, .int .u8 c] w fun e w' => e = .returned (.bool true) ∧ Below w.heap.size w w' := by
  have ha := fun w => arr8 w (lane x 0) (lane x 1) (lane x 2) (lane x 3) (lane x 4) (lane x 5) (lane x 6) (lane x 7)
  go_enter Try.func3, Try.ntmps3
  go_wp2_with fail
  refine (load_short a len cap _ hl).mono ?_
  rintro e w1 ⟨rfl, rfl⟩
  go_wp2_with fail
  refine (rload_short a len cap _ hl).mono ?_
  rintro e w1 ⟨rfl, rfl⟩
  go_wp2_with fail
  refine (bytes_any x h0 h1 _).mono ?_
  rintro e w1 ⟨rfl, b1⟩
  unfold lanes
  go_wp2_with fail
  refine (rbytes_any x h0 h1 _).mono ?_
  rintro e w2 ⟨rfl, b2⟩
  unfold lanes
  go_wp2_with fail
  refine (repeat_any c hc0 hc1 _).mono ?_
  rintro e w3 ⟨rfl, rfl⟩
  go_wp2_with fail
  refine (rrepeat_any c hc0 hc1 _).mono ?_
  rintro e w3 ⟨rfl, b3⟩
  go_wp2_with fail
  refine (known_any _).mono ?_
  rintro e w4 ⟨rfl, b4⟩
  go_wp2_with fail
  go_ret
  exact ⟨rfl, tr (tr (tr b1 b2) b3) b4⟩

set_option maxHeartbeats 1000000 in
theorem loads_eight (bl off len cap : Nat) (z0 z1 z2 z3 z4 z5 z6 z7 : Int) (x c : Int) (h0 : 0 ≤ x) (h1 : x < 18446744073709551616) (hc0 : 0 ≤ c) (hc1 : c < 256) (w : World) (hl : 8 ≤ len) (hl2 : len ≤ 40) (hc : len ≤ cap) (hm : cap ≤ maxLen)
    (k0 : 0 ≤ z0 ∧ z0 < 256) (k1 : 0 ≤ z1 ∧ z1 < 256) (k2 : 0 ≤ z2 ∧ z2 < 256) (k3 : 0 ≤ z3 ∧ z3 < 256) (k4 : 0 ≤ z4 ∧ z4 < 256) (k5 : 0 ≤ z5 ∧ z5 < 256) (k6 : 0 ≤ z6 ∧ z6 < 256) (k7 : 0 ≤ z7 ∧ z7 < 256)
    (c0 : w.cell? ⟨bl, off, none⟩ = some (.int .u8 z0)) (c1 : w.cell? ⟨bl, off + 1, none⟩ = some (.int .u8 z1)) (c2 : w.cell? ⟨bl, off + 2, none⟩ = some (.int .u8 z2)) (c3 : w.cell? ⟨bl, off + 3, none⟩ = some (.int .u8 z3))
    (c4 : w.cell? ⟨bl, off + 4, none⟩ = some (.int .u8 z4)) (c5 : w.cell? ⟨bl, off + 5, none⟩ = some (.int .u8 z5)) (c6 : w.cell? ⟨bl, off + 6, none⟩ = some (.int .u8 z6)) (c7 : w.cell? ⟨bl, off + 7, none⟩ = some (.int .u8 z7)) :
    Calls Try.prog 3 #[.slice (some ⟨bl, off, none⟩) len cap, .int .u64 x, .int .u8 c] w fun e w' => e = .returned (.bool true) ∧ Below w.heap.size w w' := by
  have hb := World.block_lt_of_cell? w _ c0
  have HL := Lib.hid (load_any bl off len cap z0 z1 z2 z3 z4 z5 z6 z7 w hl hc hm k0 k1 k2 k3 k4 k5 k6 k7 c0 c1 c2 c3 c4 c5 c6 c7)
  have HR := Lib.hid (rload_any bl off len cap z0 z1 z2 z3 z4 z5 z6 z7 w hl k0 k1 k2 k3 k4 k5 k6 k7 c0 c1 c2 c3 c4 c5 c6 c7 hb)
  clear c0 c1 c2 c3 c4 c5 c6 c7 k0 k1 k2 k3 k4 k5 k6 k7 hb hm hc
  generalize z0 + 256 * (z1 + 256 * (z2 + 256 * (z3 + 256 * (z4 + 256 * (z5 + 256 * (z6 + 256 * z7)))))) = z at HL HR
  have ha := fun w => arr8 w (lane x 0) (lane x 1) (lane x 2) (lane x 3) (lane x 4) (lane x 5) (lane x 6) (lane x 7)
  go_enter Try.func3, Try.ntmps3
  go_wp2_with fail
  refine (HL.out).mono ?_
  rintro e w1 ⟨rfl, rfl⟩
  go_wp2_with fail
  refine (HR.out).mono ?_
  rintro e w0 ⟨rfl, b0⟩
  go_wp2_with fail
  refine (bytes_any x h0 h1 _).mono ?_
  rintro e w1 ⟨rfl, b1⟩
  unfold lanes
  go_wp2_with fail
  refine (rbytes_any x h0 h1 _).mono ?_
  rintro e w2 ⟨rfl, b2⟩
  unfold lanes
  go_wp2_with fail
  refine (repeat_any c hc0 hc1 _).mono ?_
  rintro e w3 ⟨rfl, rfl⟩
  go_wp2_with fail
  refine (rrepeat_any c hc0 hc1 _).mono ?_
  rintro e w3 ⟨rfl, b3⟩
  go_wp2_with fail
  refine (known_any _).mono ?_
  rintro e w4 ⟨rfl, b4⟩
  go_wp2_with fail
  go_ret
  exact ⟨rfl, tr (tr (tr (tr b0 b1) b2) b3) b4⟩

/-- at every slice that came in -/
theorem loads_any (a : Option Addr) (len cap : Nat) (z : List Int) (x c : Int) (h0 : 0 ≤ x) (h1 : x < 18446744073709551616) (hc0 : 0 ≤ c) (hc1 : c < 256) (w : World)
    (hr : (a = none ∧ len = 0 ∧ cap = 0 ∧ z = []) ∨ ∃ x, a = some x ∧ len ≤ cap ∧ cap ≤ maxLen ∧ z.length = cap ∧ (∀ i, i < z.length → w.cell? (x.add i) = some (.int .u8 (z.getD i 0))) ∧ ∀ n ∈ z, (Lit.int .u8 n).wf = true) :
    Calls Try.prog 3 #[.slice a len cap, .int .u64 x, .int .u8 c] w fun e w' => e = .returned (.bool true) ∧ Below w.heap.size w w' := by
  by_cases hl : 40 < len
  · exact loads_long a len cap x c w hl
  by_cases hs : len < 8
  · exact loads_short a len cap x c h0 h1 hc0 hc1 w hs
  rcases hr with ⟨_, hn, _⟩ | ⟨ad, rfl, hcap, hm, hz, hcell, hw⟩
  · omega
  obtain ⟨bl, off, rfl, hcc⟩ := ints_at hcell (by omega)
  have hb : ∀ i, 0 ≤ z.getD i 0 ∧ z.getD i 0 < 256 := fun i => by have := range_u8 hw i; simp at this ⊢; omega
  have cc : ∀ i, i < 8 → w.cell? ⟨bl, off + i, none⟩ = some (.int .u8 (z.getD i 0)) := fun i hi => hcc i (by omega)
  exact loads_eight bl off len cap _ _ _ _ _ _ _ _ x c h0 h1 hc0 hc1 w (by omega) (by omega) hcap hm (hb 0) (hb 1) (hb 2) (hb 3) (hb 4) (hb 5) (hb 6) (hb 7)
    (cc 0 (by decide)) (cc 1 (by decide)) (cc 2 (by decide)) (cc 3 (by decide)) (cc 4 (by decide)) (cc 5 (by decide)) (cc 6 (by decide)) (cc 7 (by decide))

/-! ### sets of lanes, bit by bit -/
theorem and_two (a A b B : Nat) (ha : a < 2) (hb : b < 2) : (a + 2 * A) &&& (b + 2 * B) = (a &&& b) + 2 * (A &&& B) := by
  have h1 : ((a + 2 * A) &&& (b + 2 * B)) % 2 ^ 1 = (a &&& b) := by
    rw [Nat.and_mod_two_pow, show (a + 2 * A) % 2 ^ 1 = a by omega, show (b + 2 * B) % 2 ^ 1 = b by omega]
  have h2 : ((a + 2 * A) &&& (b + 2 * B)) / 2 ^ 1 = (A &&& B) := by
    rw [Nat.and_div_two_pow, show (a + 2 * A) / 2 ^ 1 = A by omega, show (b + 2 * B) / 2 ^ 1 = B by omega]
  rw [← Nat.mod_add_div ((a + 2 * A) &&& (b + 2 * B)) (2 ^ 1), h1, h2]
theorem or_two (a A b B : Nat) (ha : a < 2) (hb : b < 2) : (a + 2 * A) ||| (b + 2 * B) = (a ||| b) + 2 * (A ||| B) := by
  have h1 : ((a + 2 * A) ||| (b + 2 * B)) % 2 ^ 1 = (a ||| b) := by
    rw [Nat.or_mod_two_pow, show (a + 2 * A) % 2 ^ 1 = a by omega, show (b + 2 * B) % 2 ^ 1 = b by omega]
  have h2 : ((a + 2 * A) ||| (b + 2 * B)) / 2 ^ 1 = (A ||| B) := by
    rw [Nat.or_div_two_pow, show (a + 2 * A) / 2 ^ 1 = A by omega, show (b + 2 * B) / 2 ^ 1 = B by omega]
  rw [← Nat.mod_add_div ((a + 2 * A) ||| (b + 2 * B)) (2 ^ 1), h1, h2]
theorem bit_lt (p : Bool) : WordM.bit p < 2 := by cases p <;> decide
theorem bit_and (p q : Bool) : WordM.bit p &&& WordM.bit q = WordM.bit (p && q) := by cases p <;> cases q <;> decide
theorem bit_or (p q : Bool) : WordM.bit p ||| WordM.bit q = WordM.bit (p || q) := by cases p <;> cases q <;> decide
theorem setN_and (p q : Nat → Bool) : WordM.setN p &&& WordM.setN q = WordM.setN (fun i => p i && q i) := by
  unfold WordM.setN
  repeat rw [and_two _ _ _ _ (bit_lt _) (bit_lt _)]
  simp only [bit_and]
theorem setN_or (p q : Nat → Bool) : WordM.setN p ||| WordM.setN q = WordM.setN (fun i => p i || q i) := by
  unfold WordM.setN
  repeat rw [or_two _ _ _ _ (bit_lt _) (bit_lt _)]
  simp only [bit_or]
theorem setI_and (p q : Nat → Bool) : bits .and .u8 (setI p) (setI q) = setI (fun i => p i && q i) := by
  unfold setI; rw [u8_and_nat _ _ (WordM.setN_lt _) (WordM.setN_lt _), setN_and]
theorem setI_or (p q : Nat → Bool) : bits .or .u8 (setI p) (setI q) = setI (fun i => p i || q i) := by
  unfold setI; rw [u8_or_nat _ _ (WordM.setN_lt _) (WordM.setN_lt _), setN_or]
theorem setI_congr (p q : Nat → Bool) (h : ∀ i, p i = q i) : setI p = setI q := by unfold setI; rw [WordM.setN_congr p q (fun i _ => h i)]
theorem setI_bound (p : Nat → Bool) : 0 ≤ setI p ∧ setI p < 256 := by have := WordM.setN_lt p; unfold setI; omega
theorem setI_bit (p : Nat → Bool) (k : Nat) (hk : k < 8) (hp : p k = true) : setI p / 2 ^ k % 2 = 1 := by
  have h : WordM.setN p / 2 ^ k % 2 = 1 := by
    have b0 := bit_lt (p 0); have b1 := bit_lt (p 1); have b2 := bit_lt (p 2); have b3 := bit_lt (p 3)
    have b4 := bit_lt (p 4); have b5 := bit_lt (p 5); have b6 := bit_lt (p 6); have b7 := bit_lt (p 7)
    have hb : WordM.bit (p k) = 1 := by rw [hp]; rfl
    unfold WordM.setN
    obtain rfl | rfl | rfl | rfl | rfl | rfl | rfl | rfl := eight k hk
    all_goals (simp only [Nat.reducePow]; omega)
  unfold setI
  have e : (2 ^ k : Int) = ((2 ^ k : Nat) : Int) := by rw [Int.natCast_pow]; rfl
  rw [e, ← Int.natCast_ediv]; omega

def below (x : Int) (b : Nat) : Int := setI (fun i => decide (lane x i < b))
def belowHigh (x : Int) (b : Nat) : Int := setI (fun i => decide (128 ≤ lane x i) && decide (lane x i < b))
def isAt (x : Int) (b : Nat) : Int := setI (fun i => lane x i == (b : Int))
theorem below_and (x : Int) (b : Nat) : bits .and .u8 (below x b) (isAt x b) = 0 := by
  unfold below isAt
  rw [setI_and, setI_congr _ (fun _ => false) (fun i => by rw [Bool.eq_iff_iff]; simp; omega)]; decide
theorem below_or (x : Int) (b : Nat) : bits .or .u8 (below x b) (isAt x b) = below x (b + 1) := by
  unfold below isAt
  rw [setI_or]; exact setI_congr _ _ fun i => by rw [Bool.eq_iff_iff]; simp; omega
theorem high_or (x : Int) (b : Nat) (h : 128 ≤ b) : bits .or .u8 (belowHigh x b) (isAt x b) = belowHigh x (b + 1) := by
  unfold belowHigh isAt
  rw [setI_or]; exact setI_congr _ _ fun i => by rw [Bool.eq_iff_iff]; simp; omega
theorem high_low (x : Int) (b : Nat) (h : b < 128) : belowHigh x b = belowHigh x (b + 1) := by
  unfold belowHigh
  exact setI_congr _ _ fun i => by rw [Bool.eq_iff_iff]; simp; omega
theorem below_zero (x : Int) : below x 0 = 0 := by
  unfold below
  rw [setI_congr _ (fun _ => false) (fun i => by have := lane_byte x i; simp; omega)]; decide
theorem belowHigh_zero (x : Int) : belowHigh x 0 = 0 := by
  unfold belowHigh
  rw [setI_congr _ (fun _ => false) (fun i => by have := lane_byte x i; simp; omega)]; decide
theorem below_all (x : Int) : below x 256 = 255 := by
  unfold below
  rw [setI_congr _ (fun _ => true) (fun i => by have := lane_byte x i; simp; omega)]; decide
theorem belowHigh_all (x : Int) : setI (fun i => decide (128 ≤ lane x i)) = belowHigh x 256 := by
  unfold belowHigh
  exact setI_congr _ _ fun i => by have := lane_byte x i; rw [Bool.eq_iff_iff]; simp; omega
theorem word_lanes (x : Int) (h0 : 0 ≤ x) (h1 : x < 18446744073709551616) :
    lane x 0 + 256 * (lane x 1 + 256 * (lane x 2 + 256 * (lane x 3 + 256 * (lane x 4 + 256 * (lane x 5 + 256 * (lane x 6 + 256 * lane x 7)))))) = x := by
  unfold lane; simp only [Int.reducePow]; omega

theorem isat_any (x : Int) (k : Nat) (h0 : 0 ≤ x) (h1 : x < 18446744073709551616) (hk : k < 256) (w : World) :
    Calls Try.prog 24 #[.int .u64 x, .int .u8 k] w fun e w' => e = .returned (.int .u8 (isAt x k)) ∧ w = w' := match_any x k h0 h1 (by omega) (by omega) w
theorem matchlane_any (x : Int) (k : Nat) (h0 : 0 ≤ x) (h1 : x < 18446744073709551616) (hk : k < 8) (w : World) :
    Calls Try.prog 24 #[.int .u64 x, .int .u8 (lane x k)] w fun e w' => ∃ m : Int, (0 ≤ m ∧ m < 256) ∧ m / 2 ^ k % 2 = 1 ∧ e = .returned (.int .u8 m) ∧ w = w' := by
  have hb := lane_byte x k
  exact (match_any x (lane x k) h0 h1 hb.1 hb.2 w).mono fun e w' ⟨he, hw⟩ => ⟨_, setI_bound _, setI_bit _ k hk (by simp), he, hw⟩

set_option maxRecDepth 100000 in
set_option maxHeartbeats 4000000 in
theorem holds_any (x : Int) (h0 : 0 ≤ x) (h1 : x < 18446744073709551616) (w : World) :
    Calls Try.prog 7 #[.int .u64 x] w fun e w' => e = .returned (.bool true) ∧ Below w.heap.size w w' := by
  have HX := Lib.hid (word_lanes x h0 h1)
  go_enter Try.func7, Try.ntmps7
  go_wp2_with fail
  refine (bytes_any x h0 h1 _).mono ?_
  rintro e w1 ⟨rfl, b1⟩
  unfold lanes
  go_wp2_with fail
  refine (load_any w1.heap.size 0 8 8 (lane x 0) (lane x 1) (lane x 2) (lane x 3) (lane x 4) (lane x 5) (lane x 6) (lane x 7) _ (by decide) (by decide) (by decide) (lane_byte _ _) (lane_byte _ _) (lane_byte _ _) (lane_byte _ _) (lane_byte _ _) (lane_byte _ _) (lane_byte _ _) (lane_byte _ _)
    (by simp [go_sem]) (by simp [go_sem]) (by simp [go_sem]) (by simp [go_sem]) (by simp [go_sem]) (by simp [go_sem]) (by simp [go_sem]) (by simp [go_sem])).mono ?_
  rintro e w2 ⟨rfl, hw2⟩
  rw [HX.out]
  have hcell : ∀ k, k < 8 → w2.cell? ⟨w1.heap.size, k, none⟩ = some (.int .u8 (lane x k)) := by
    intro k hk
    rw [← hw2]
    obtain rfl | rfl | rfl | rfl | rfl | rfl | rfl | rfl := eight k hk
    all_goals simp [go_sem]
  have hbel : Below w.heap.size w w2 := by rw [← hw2]; exact tr b1 (by go_grown)
  have HC := Lib.hid hcell
  clear hcell hw2
  go_wp2_with fail
  go_loop [6, 7, 8, 9] (fun a h i _ => ∃ k : Nat, k ≤ 256 ∧ i = .int .i64 k ∧ a = .int .u8 (below x k) ∧ h = .int .u8 (belowHigh x k)) (fun _ _ i _ => 256 - (intOf i).toNat)
  case atStart => exact ⟨0, by omega, rfl, by rw [below_zero], by rw [belowHigh_zero]⟩
  case round =>
    obtain ⟨k, hk, rfl, rfl, rfl⟩ := hrel
    by_cases hlt : k < 256
    · have hand := below_and x k
      have HO := Lib.hid (below_or x k)
      by_cases hh : 128 ≤ k
      · have HH := Lib.hid (high_or x k hh)
        go_wp2_with (go_at_call 24; refine (isat_any x k h0 h1 hlt _).mono ?_; rintro e w' ⟨rfl, rfl⟩)
        go_round
        case rel => exact ⟨k + 1, by omega, by go_num, by rw [HO.out], by rw [HH.out]⟩
        case measure => simp [intOf]; omega
      · have HH := Lib.hid (high_low x k (by omega))
        go_wp2_with (go_at_call 24; refine (isat_any x k h0 h1 hlt _).mono ?_; rintro e w' ⟨rfl, rfl⟩)
        go_round
        case rel => exact ⟨k + 1, by omega, by go_num, by rw [HO.out], by rw [HH.out]⟩
        case measure => simp [intOf]; omega
    · obtain rfl : k = 256 := by omega
      have ha := below_all x
      have hq := high_any x h0 h1
      rw [belowHigh_all] at hq
      generalize belowHigh x 256 = q at *
      have HQ := Lib.hid hq
      clear hq
      go_wp2_with fail
      go_loop [10] (fun i => ∃ k : Nat, k ≤ 8 ∧ i = .int .i64 k) (fun i => 8 - (intOf i).toNat)
      case atStart => exact ⟨0, by omega, rfl⟩
      case round =>
        obtain ⟨k, hk, rfl⟩ := hrel
        by_cases hlt : k < 8
        · have hc := HC.out k hlt
          go_wp2_with (go_at_call 24; refine (matchlane_any x k h0 h1 hlt _).mono ?_; rintro e w' ⟨m, ⟨m0, m1⟩, hm, rfl, rfl⟩; have hm2 : ((m / 2 ^ k).tmod 2 != 1) = false := by rw [Int.tmod_eq_emod_of_nonneg (Int.ediv_nonneg m0 (Int.pow_nonneg (by decide))), hm]; rfl)
          go_round
          case rel => exact ⟨k + 1, by omega, by go_num⟩
          case measure => simp [intOf]; omega
        · go_wp2_with fail
          refine (HQ.out _).mono ?_
          rintro e w3 ⟨rfl, rfl⟩
          go_wp2_with fail
          refine (known_any _).mono ?_
          rintro e w3 ⟨rfl, b3⟩
          go_wp2_with fail
          go_ret
          exact ⟨rfl, tr hbel b3⟩
end Go.Proofs.Ytgghlecpdgjnlaa.Word
