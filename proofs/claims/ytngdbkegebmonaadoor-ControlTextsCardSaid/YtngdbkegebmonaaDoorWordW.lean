/-
  Walks over package word (layer 1) and its reference: what each function returns.
-/
import Derived.Test.YtngdbkegebmonaaDoorRows
import Derived.Test.YtngdbkegebmonaaDoorWordM
import Derived.WalkKit
import Derived.WalkSpells
import Derived.WalkLawsBesides
import Derived.Lib.Hide
import Derived.Handy
import Derived.BigQuiet
import Derived.Deep.QuietTactic
import Derived.Deep.RegionHeld3
namespace Go.Proofs.YtngdbkegebmonaaDoor.Word
open Go.RowKit

theorem ret_int {k : IntKind} {a b : Int} (h : a = b) : Ending.returned (.int k a) = .returned (.int k b) := by rw [h]
theorem tr {a b c : World} (h : Below a.heap.size a b) (k : Below b.heap.size b c) : Below a.heap.size a c := h.trans (k.mono h.size)
theorem bcell {W w1 : World} (hb : Below W.heap.size W w1) : (∀ b o, b < W.heap.size → w1.cell? ⟨b, o, none⟩ = W.cell? ⟨b, o, none⟩) ∧ (∀ b o, b < W.heap.size → w1.frozen? ⟨b, o, none⟩ = W.frozen? ⟨b, o, none⟩) ∧ W.heap.size ≤ w1.heap.size :=
  ⟨fun b o h => hb.cell (p := ⟨b, o, none⟩) h, fun b o h => hb.frozen (p := ⟨b, o, none⟩) h, hb.size⟩

def lane (x : Int) (i : Nat) : Int := x / 256 ^ i % 256
theorem lane_byte (x : Int) (i : Nat) : 0 ≤ lane x i ∧ lane x i < 256 := by unfold lane; omega

set_option maxHeartbeats 400000 in
theorem repeat_any (b : Int) (h0 : 0 ≤ b) (h1 : b < 256) (w : World) :
    Calls Tryd.prog 34 #[.int .u8 b] w fun e w' => e = .returned (.int .u64 (72340172838076673 * b)) ∧ w = w' := by
  go_enter Tryd.func34, Tryd.ntmps34
  go_wp2
  go_ret
  exact ⟨rfl, rfl⟩

theorem tdiv_step (x : Int) (k : Nat) (h0 : 0 ≤ x) (h1 : x < 18446744073709551616) : IntKind.u64.wrap ((x / 256 ^ k).tdiv 256) = x / 256 ^ (k + 1) := by
  have hp : 0 ≤ x / 256 ^ k := Int.ediv_nonneg h0 (Int.pow_nonneg (by decide))
  have hq : x / 256 ^ k ≤ x := Int.ediv_le_self _ h0
  have hs : x / 256 ^ k / 256 = x / 256 ^ (k + 1) := by rw [Int.ediv_ediv_of_nonneg (Int.pow_nonneg (by decide)), Int.pow_succ]
  rw [Int.tdiv_eq_ediv_of_nonneg hp, ← hs, IntKind.wrap_u64]; omega
theorem tmod_last (x : Int) (k : Nat) (h0 : 0 ≤ x) : (x / 256 ^ k).tmod 256 % 256 = lane x k := by
  have hp : 0 ≤ x / 256 ^ k := Int.ediv_nonneg h0 (Int.pow_nonneg (by decide))
  unfold lane
  rw [Int.tmod_eq_emod_of_nonneg hp]; omega

set_option maxHeartbeats 400000 in
theorem rlane_any (x : Int) (n : Nat) (h0 : 0 ≤ x) (h1 : x < 18446744073709551616) (hn : n ≤ 64) (w : World) :
    Calls Tryd.prog 25 #[.int .u64 x, .int .i64 n] w fun e w' => e = .returned (.int .u8 (lane x n)) ∧ w = w' := by
  go_enter Tryd.func25, Tryd.ntmps25
  go_wp2
  go_loop [0, 5] (fun y i => ∃ k : Nat, k ≤ n ∧ i = .int .i64 k ∧ y = .int .u64 (x / 256 ^ k)) (fun _ i => n - (intOf i).toNat)
  case atStart => exact ⟨0, Nat.zero_le _, rfl, by simp⟩
  case round =>
    obtain ⟨k, hk, rfl, rfl⟩ := hrel
    have HP := Lib.hid (tdiv_step x k h0 h1)
    by_cases hlt : k < n
    · go_wp2
      go_round
      case rel => exact ⟨k + 1, by omega, by go_num, by rw [HP.out]⟩
      case measure => simp [intOf]; omega
    · have : k = n := by omega
      subst this
      have HM := Lib.hid (tmod_last x k h0)
      go_wp2
      go_ret
      exact ⟨ret_int HM.out, rfl⟩

set_option maxHeartbeats 1000000 in
theorem of_any (b0 b1 b2 b3 b4 b5 b6 b7 : Int) (h0 : 0 ≤ b0 ∧ b0 < 256) (h1 : 0 ≤ b1 ∧ b1 < 256) (h2 : 0 ≤ b2 ∧ b2 < 256) (h3 : 0 ≤ b3 ∧ b3 < 256)
    (h4 : 0 ≤ b4 ∧ b4 < 256) (h5 : 0 ≤ b5 ∧ b5 < 256) (h6 : 0 ≤ b6 ∧ b6 < 256) (h7 : 0 ≤ b7 ∧ b7 < 256) (w : World) :
    Calls Tryd.prog 35 #[.agg #[.int .u8 b0, .int .u8 b1, .int .u8 b2, .int .u8 b3, .int .u8 b4, .int .u8 b5, .int .u8 b6, .int .u8 b7]] w fun e w' =>
      e = .returned (.int .u64 (b0 + 256 * (b1 + 256 * (b2 + 256 * (b3 + 256 * (b4 + 256 * (b5 + 256 * (b6 + 256 * b7)))))))) ∧ Below w.heap.size w w' := by
  go_enter Tryd.func35, Tryd.ntmps35
  go_wp2
  go_rounds 9
  go_ret
  exact ⟨ret_int (by omega), by go_grown⟩

def agg8 (b0 b1 b2 b3 b4 b5 b6 b7 : Int) : Value := .agg #[.int .u8 b0, .int .u8 b1, .int .u8 b2, .int .u8 b3, .int .u8 b4, .int .u8 b5, .int .u8 b6, .int .u8 b7]
def lanes (x : Int) : Value := .agg #[.int .u8 (lane x 0), .int .u8 (lane x 1), .int .u8 (lane x 2), .int .u8 (lane x 3), .int .u8 (lane x 4), .int .u8 (lane x 5), .int .u8 (lane x 6), .int .u8 (lane x 7)]

set_option maxHeartbeats 1000000 in
theorem bytes_any (x : Int) (h0 : 0 ≤ x) (h1 : x < 18446744073709551616) (w : World) :
    Calls Tryd.prog 40 #[.int .u64 x] w fun e w' => e = .returned (lanes x) ∧ Below w.heap.size w w' := by
  go_enter Tryd.func40, Tryd.ntmps40
  go_wp2
  go_rounds 9
  refine bodyPost_ret (v := lanes x) ?_ rfl ⟨rfl, ?_⟩
  · simp [results, Tryd.results40, go_sem, lanes, lane]
    omega
  · go_grown

set_option maxHeartbeats 1000000 in
theorem rbytes_any (x : Int) (h0 : 0 ≤ x) (h1 : x < 18446744073709551616) (w : World) :
    Calls Tryd.prog 28 #[.int .u64 x] w fun e w' => e = .returned (lanes x) ∧ Below w.heap.size w w' := by
  go_enter Tryd.func28, Tryd.ntmps28
  go_wp2
  refine wp_loop_rounds 9 ?_
  repeat any_goals (rw [rounds_succ]; go_wp2_with (go_at_call 25; refine (rlane_any x _ h0 h1 (by decide) _).mono ?_; rintro e w' ⟨rfl, rfl⟩))
  refine bodyPost_ret (v := lanes x) ?_ rfl ⟨rfl, ?_⟩
  · simp [results, Tryd.results28, go_sem, lanes]
  · go_grown

def setI (p : Nat → Bool) : Int := (WordM.setN p : Nat)
theorem lane_nat (n i : Nat) : lane (n : Int) i = (WordM.ln n i : Nat) := by
  unfold lane WordM.ln
  rw [Int.natCast_emod, Int.natCast_ediv, Int.natCast_pow]; rfl
theorem high_eq (n : Nat) (h : n < 18446744073709551616) :
    IntKind.u64.wrap (bits BinOp.and IntKind.u64 (n : Int) 9259542123273814144 / 128 * 72624976668147840) / 72057594037927936 % 256 = setI (fun i => decide (128 ≤ lane n i)) := by
  have e : IntKind.u64.wrap (bits BinOp.and IntKind.u64 (n : Int) 9259542123273814144 / 128 * 72624976668147840) / 72057594037927936 = (WordM.highN n : Nat) := by
    have a := u64_and_nat n 9259542123273814144 h (by decide)
    rw [show ((9259542123273814144 : Nat) : Int) = 9259542123273814144 from rfl] at a
    rw [a, IntKind.wrap_u64]
    unfold WordM.highN
    omega
  rw [e, WordM.highN_eq n h]
  have hs := WordM.setN_lt (fun i => decide (128 ≤ WordM.ln n i))
  unfold setI
  rw [WordM.setN_congr (fun i => decide (128 ≤ lane n i)) (fun i => decide (128 ≤ WordM.ln n i)) (fun i _ => by rw [lane_nat]; simp; omega)]
  omega

set_option maxHeartbeats 400000 in
theorem high_any (x : Int) (h0 : 0 ≤ x) (h1 : x < 18446744073709551616) (w : World) :
    Calls Tryd.prog 33 #[.int .u64 x] w fun e w' => e = .returned (.int .u8 (setI (fun i => decide (128 ≤ lane x i)))) ∧ w = w' := by
  obtain ⟨n, rfl⟩ := Int.eq_ofNat_of_zero_le h0
  have HE := Lib.hid (high_eq n (by omega))
  go_enter Tryd.func33, Tryd.ntmps33
  go_wp2
  go_ret
  exact ⟨ret_int HE.out, rfl⟩

theorem bits_word (op : BinOp) (x y : Int) : 0 ≤ bits op .u64 x y ∧ bits op .u64 x y < 18446744073709551616 := by
  unfold bits; rw [IntKind.wrap_u64]; omega
theorem u64max : IntKind.u64.max = ((18446744073709551615 : Nat) : Int) := by decide
/-- what Match hands to High -/
def others (x b : Int) : Int := bits BinOp.xor IntKind.u64 IntKind.u64.max (bits BinOp.or IntKind.u64 (IntKind.u64.wrap
  (bits BinOp.andNot IntKind.u64 (bits BinOp.xor IntKind.u64 x (72340172838076673 * b)) 9259542123273814144 + 9187201950435737471)) (bits BinOp.xor IntKind.u64 x (72340172838076673 * b)))
theorem others_nat (n m : Nat) (h : n < 18446744073709551616) (hm : m < 256) :
    others n m = (18446744073709551615 - (((n ^^^ (72340172838076673 * m)) &&& 9187201950435737471) + 9187201950435737471 ||| (n ^^^ (72340172838076673 * m))) : Nat) := by
  have e0 : (72340172838076673 * (m : Int)) = ((72340172838076673 * m : Nat) : Int) := by omega
  have e1 : n ^^^ (72340172838076673 * m) < 18446744073709551616 := Nat.xor_lt_two_pow (n := 64) h (by omega)
  have e2 : (n ^^^ (72340172838076673 * m)) &&& 9187201950435737471 ≤ 9187201950435737471 := Nat.and_le_right
  have e3 : ((n ^^^ (72340172838076673 * m)) &&& 9187201950435737471) + 9187201950435737471 ||| (n ^^^ (72340172838076673 * m)) < 18446744073709551616 := Nat.or_lt_two_pow (n := 64) (by omega) e1
  unfold others
  rw [e0, u64_xor_nat _ _ h (by omega), show (9259542123273814144 : Int) = ((9259542123273814144 : Nat) : Int) from rfl, u64_andNot_nat _ _ e1 (by decide),
    show (18446744073709551615 - 9259542123273814144 : Nat) = 9187201950435737471 from rfl]
  rw [show ((((n ^^^ (72340172838076673 * m)) &&& 9187201950435737471 : Nat) : Int) + 9187201950435737471) = ((((n ^^^ (72340172838076673 * m)) &&& 9187201950435737471) + 9187201950435737471 : Nat) : Int) from by omega]
  rw [show IntKind.u64.wrap ((((n ^^^ (72340172838076673 * m)) &&& 9187201950435737471) + 9187201950435737471 : Nat) : Int) = ((((n ^^^ (72340172838076673 * m)) &&& 9187201950435737471) + 9187201950435737471 : Nat) : Int) from by rw [IntKind.wrap_u64]; omega]
  rw [u64_or_nat _ _ (by omega) e1, u64max, u64_xor_nat _ _ (by decide) e3]
  have c : ∀ a, a < 18446744073709551616 → 18446744073709551615 ^^^ a = 18446744073709551615 - a := by
    intro a ha
    have h := congrArg BitVec.toNat (BitVec.allOnes_xor (x := BitVec.ofNat 64 a))
    rw [BitVec.toNat_xor, BitVec.toNat_allOnes, BitVec.toNat_not, BitVec.toNat_ofNat, Nat.mod_eq_of_lt (by omega)] at h
    exact h
  rw [c _ e3]
theorem match_eq (x b : Int) (h0 : 0 ≤ x) (h1 : x < 18446744073709551616) (hb0 : 0 ≤ b) (hb1 : b < 256) :
    setI (fun i => decide (128 ≤ lane (others x b) i)) = setI (fun i => lane x i == b) := by
  obtain ⟨n, rfl⟩ := Int.eq_ofNat_of_zero_le h0
  obtain ⟨m, rfl⟩ := Int.eq_ofNat_of_zero_le hb0
  have hn : n < 18446744073709551616 := by omega
  have hm : m < 256 := by omega
  have h := WordM.matchN_eq n m hn hm
  unfold WordM.matchN at h
  rw [others_nat n m hn hm]
  rw [WordM.highN_eq _ (by omega)] at h
  unfold setI
  rw [WordM.setN_congr (fun i => lane (n : Int) i == (m : Int)) (fun i => WordM.ln n i == m) (fun i _ => by rw [lane_nat, Bool.eq_iff_iff]; simp; omega), ← h]
  rw [WordM.setN_congr _ _ (fun i _ => ?_)]
  rw [lane_nat]; simp; omega

/-! ### a word with another byte in a lane -/
def withI (x : Int) (l : Nat) (b : Int) : Int := x - lane x l * 256 ^ l + b * 256 ^ l
theorem eight (l : Nat) (hl : l < 8) : l = 0 ∨ l = 1 ∨ l = 2 ∨ l = 3 ∨ l = 4 ∨ l = 5 ∨ l = 6 ∨ l = 7 := by omega
theorem maskL (l : Nat) (hl : l < 8) : 18446744073709551615 - 255 * 256 ^ l = WordM.L (fun i => if i = l then 0 else 255) := by
  obtain rfl | rfl | rfl | rfl | rfl | rfl | rfl | rfl := eight l hl
  all_goals decide +kernel
theorem oneL (l m : Nat) (hl : l < 8) : m * 256 ^ l = WordM.L (fun i => if i = l then m else 0) := by
  obtain rfl | rfl | rfl | rfl | rfl | rfl | rfl | rfl := eight l hl
  all_goals (simp [WordM.L]; try omega)
theorem putL (l m : Nat) (f : Nat → Nat) (hl : l < 8) : WordM.L (fun i => if i = l then m else f i) = WordM.L f - f l * 256 ^ l + m * 256 ^ l := by
  obtain rfl | rfl | rfl | rfl | rfl | rfl | rfl | rfl := eight l hl
  all_goals (simp [WordM.L]; try omega)
theorem keepL (n l : Nat) (h : n < 18446744073709551616) (hl : l < 8) : n &&& (18446744073709551615 - 255 * 256 ^ l) = WordM.L (fun i => if i = l then 0 else WordM.ln n i) := by
  have hx : ∀ a, a < 256 → a &&& 255 = a := by decide +kernel
  rw [maskL l hl]
  conv => lhs; rw [← WordM.L_ln n h]
  rw [WordM.L_and _ _ (fun _ _ => WordM.ln_lt _ _) (fun i _ => by split <;> decide)]
  refine WordM.L_congr _ _ fun i _ => ?_
  by_cases hi : i = l
  · simp [hi]
  · simp [hi]; exact hx _ (WordM.ln_lt _ _)
theorem with_nat (n l m : Nat) (h : n < 18446744073709551616) (hl : l < 8) (hm : m < 256) :
    (n &&& (18446744073709551615 - 255 * 256 ^ l)) ||| (m * 256 ^ l) = n - WordM.ln n l * 256 ^ l + m * 256 ^ l := by
  rw [keepL n l h hl]
  conv => lhs; rw [oneL l m hl]
  rw [WordM.L_or _ _ (fun i _ => by have := WordM.ln_lt n i; split <;> omega) (fun i _ => by split <;> omega)]
  rw [WordM.L_congr _ (fun i => if i = l then m else WordM.ln n i) (fun i _ => by by_cases hi : i = l <;> simp [hi]), putL l m _ hl, WordM.L_ln n h]

set_option maxHeartbeats 400000 in
theorem match_any (x b : Int) (h0 : 0 ≤ x) (h1 : x < 18446744073709551616) (hb0 : 0 ≤ b) (hb1 : b < 256) (w : World) :
    Calls Tryd.prog 31 #[.int .u64 x, .int .u8 b] w fun e w' => e = .returned (.int .u8 (setI (fun i => lane x i == b))) ∧ w = w' := by
  have HM := Lib.hid (match_eq x b h0 h1 hb0 hb1)
  go_enter Tryd.func31, Tryd.ntmps31
  go_wp2_with fail
  refine (repeat_any b hb0 hb1 _).mono ?_
  rintro e w' ⟨rfl, rfl⟩
  go_wp2_with fail
  refine (high_any (others x b) (bits_word _ _ _).1 (bits_word _ _ _).2 _).mono ?_
  rintro e w' ⟨rfl, rfl⟩
  rw [HM.out]
  go_wp2_with fail
  go_ret
  exact ⟨rfl, rfl⟩

set_option maxHeartbeats 400000 in
theorem lane_any (x l : Int) (h0 : 0 ≤ x) (h1 : x < 18446744073709551616) (l0 : 0 ≤ l) (l1 : l < 8) (w : World) :
    Calls Tryd.prog 39 #[.int .u64 x, .int .i64 l] w fun e w' => e = .returned (.tuple #[.int .u8 (lane x l.toNat), .int .i64 0]) ∧ w = w' := by
  obtain rfl | rfl | rfl | rfl | rfl | rfl | rfl | rfl : l = 0 ∨ l = 1 ∨ l = 2 ∨ l = 3 ∨ l = 4 ∨ l = 5 ∨ l = 6 ∨ l = 7 := by omega
  all_goals
    go_enter Tryd.func39, Tryd.ntmps39
    go_wp2
    go_ret2
    exact ⟨by simp [lane]; try omega, rfl⟩
set_option maxHeartbeats 400000 in
theorem lane_out (x l : Int) (hl : l < 0 ∨ 8 ≤ l) (w : World) :
    Calls Tryd.prog 39 #[.int .u64 x, .int .i64 l] w fun e w' => e = .returned (.tuple #[.int .u8 0, .int .i64 3]) ∧ w = w' := by
  by_cases hn : l < 0
  · go_enter Tryd.func39, Tryd.ntmps39
    go_wp2
    go_ret2
    exact ⟨rfl, rfl⟩
  · have h8 : 8 ≤ l := by omega
    clear hl
    go_enter Tryd.func39, Tryd.ntmps39
    go_wp2
    go_ret2
    exact ⟨rfl, rfl⟩

theorem with_eq (x b : Int) (l : Nat) (h0 : 0 ≤ x) (h1 : x < 18446744073709551616) (hl : l < 8) (hb0 : 0 ≤ b) (hb1 : b < 256) :
    bits .or .u64 (bits .andNot .u64 x (255 * 256 ^ l)) (b * 256 ^ l) = withI x l b := by
  obtain ⟨n, rfl⟩ := Int.eq_ofNat_of_zero_le h0
  obtain ⟨m, rfl⟩ := Int.eq_ofNat_of_zero_le hb0
  have hn : n < 18446744073709551616 := by omega
  have hm : m < 256 := by omega
  have hp : 255 * 256 ^ l < 18446744073709551616 := by
    obtain rfl | rfl | rfl | rfl | rfl | rfl | rfl | rfl := eight l hl
    all_goals decide
  have hq : m * 256 ^ l < 18446744073709551616 := Nat.lt_of_le_of_lt (Nat.mul_le_mul_right _ (by omega : m ≤ 255)) hp
  have ha : n &&& (18446744073709551615 - 255 * 256 ^ l) < 18446744073709551616 := Nat.lt_of_le_of_lt Nat.and_le_left hn
  rw [show (255 * 256 ^ l : Int) = ((255 * 256 ^ l : Nat) : Int) from by rw [Int.natCast_mul, Int.natCast_pow]; rfl,
    show ((m : Int) * 256 ^ l : Int) = ((m * 256 ^ l : Nat) : Int) from by rw [Int.natCast_mul, Int.natCast_pow]; rfl,
    u64_andNot_nat _ _ hn hp, u64_or_nat _ _ ha hq, with_nat n l m hn hl hm]
  unfold withI
  rw [lane_nat]
  have hle : WordM.ln n l * 256 ^ l ≤ n := by
    unfold WordM.ln
    exact Nat.le_trans (Nat.mul_le_mul_right _ (Nat.mod_le _ _)) (Nat.div_mul_le_self _ _)
  rw [Int.natCast_add, Int.natCast_sub hle, Int.natCast_mul, Int.natCast_mul, Int.natCast_pow]; rfl

set_option maxHeartbeats 400000 in
theorem with_any (x l b : Int) (h0 : 0 ≤ x) (h1 : x < 18446744073709551616) (l0 : 0 ≤ l) (l1 : l < 8) (hb0 : 0 ≤ b) (hb1 : b < 256) (w : World) :
    Calls Tryd.prog 37 #[.int .u64 x, .int .i64 l, .int .u8 b] w fun e w' => e = .returned (.tuple #[.int .u64 (withI x l.toNat b), .int .i64 0]) ∧ Below w.heap.size w w' := by
  have HE := Lib.hid (with_eq x b l.toNat h0 h1 (by omega) hb0 hb1)
  obtain rfl | rfl | rfl | rfl | rfl | rfl | rfl | rfl : l = 0 ∨ l = 1 ∨ l = 2 ∨ l = 3 ∨ l = 4 ∨ l = 5 ∨ l = 6 ∨ l = 7 := by omega
  all_goals
    clear l0 l1
    go_enter Tryd.func37, Tryd.ntmps37
    go_wp2
    go_quiet (fail)
    go_wp2
    go_ret2
    refine ⟨?_, below_drewN (Below.refl _ _) _⟩
    simpa using HE.out

set_option maxHeartbeats 400000 in
theorem with_out (x l b : Int) (hl : l < 0 ∨ 8 ≤ l) (w : World) :
    Calls Tryd.prog 37 #[.int .u64 x, .int .i64 l, .int .u8 b] w fun e w' => e = .returned (.tuple #[.int .u64 0, .int .i64 3]) ∧ w = w' := by
  by_cases hn : l < 0
  · go_enter Tryd.func37, Tryd.ntmps37
    go_wp2
    go_ret2
    exact ⟨rfl, rfl⟩
  · have h8 : 8 ≤ l := by omega
    clear hl
    go_enter Tryd.func37, Tryd.ntmps37
    go_wp2
    go_ret2
    exact ⟨rfl, rfl⟩

set_option maxHeartbeats 400000 in
theorem rrepeat_any (b : Int) (h0 : 0 ≤ b) (h1 : b < 256) (w : World) :
    Calls Tryd.prog 19 #[.int .u8 b] w fun e w' => e = .returned (.int .u64 (72340172838076673 * b)) ∧ Below w.heap.size w w' := by
  go_enter Tryd.func19, Tryd.ntmps19
  go_wp2_with fail
  refine (of_any b b b b b b b b ⟨h0, h1⟩ ⟨h0, h1⟩ ⟨h0, h1⟩ ⟨h0, h1⟩ ⟨h0, h1⟩ ⟨h0, h1⟩ ⟨h0, h1⟩ ⟨h0, h1⟩ _).mono ?_
  rintro e w1 ⟨rfl, b1⟩
  go_wp2_with fail
  go_ret
  exact ⟨ret_int (by omega), b1⟩

set_option maxHeartbeats 1000000 in
theorem rwith_any (x l b : Int) (h0 : 0 ≤ x) (h1 : x < 18446744073709551616) (l0 : 0 ≤ l) (l1 : l < 8) (hb0 : 0 ≤ b) (hb1 : b < 256) (w : World) :
    Calls Tryd.prog 38 #[.int .u64 x, .int .i64 l, .int .u8 b] w fun e w' => e = .returned (.tuple #[.int .u64 (withI x l.toNat b), .int .i64 0]) ∧ Below w.heap.size w w' := by
  obtain rfl | rfl | rfl | rfl | rfl | rfl | rfl | rfl : l = 0 ∨ l = 1 ∨ l = 2 ∨ l = 3 ∨ l = 4 ∨ l = 5 ∨ l = 6 ∨ l = 7 := by omega
  all_goals
    clear l0 l1
    go_enter Tryd.func38, Tryd.ntmps38
    go_wp2_with fail
    refine (rbytes_any x h0 h1 _).mono ?_
    rintro e w1 ⟨rfl, b1⟩
    unfold lanes
    go_wp2_with fail
    refine (of_any _ _ _ _ _ _ _ _ (by first | exact lane_byte _ _ | exact ⟨hb0, hb1⟩) (by first | exact lane_byte _ _ | exact ⟨hb0, hb1⟩) (by first | exact lane_byte _ _ | exact ⟨hb0, hb1⟩) (by first | exact lane_byte _ _ | exact ⟨hb0, hb1⟩)
      (by first | exact lane_byte _ _ | exact ⟨hb0, hb1⟩) (by first | exact lane_byte _ _ | exact ⟨hb0, hb1⟩) (by first | exact lane_byte _ _ | exact ⟨hb0, hb1⟩) (by first | exact lane_byte _ _ | exact ⟨hb0, hb1⟩) _).mono ?_
    rintro e w2 ⟨rfl, b2⟩
    go_wp2_with fail
    go_ret2
    refine ⟨?_, tr (tr b1 (by go_grown)) b2⟩
    simp [withI, lane]
    omega

set_option maxHeartbeats 400000 in
theorem rwith_out (x l b : Int) (hl : l < 0 ∨ 8 ≤ l) (w : World) :
    Calls Tryd.prog 38 #[.int .u64 x, .int .i64 l, .int .u8 b] w fun e w' => e = .returned (.tuple #[.int .u64 0, .int .i64 3]) ∧ w = w' := by
  by_cases hn : l < 0
  · go_enter Tryd.func38, Tryd.ntmps38
    go_wp2
    go_ret2
    exact ⟨rfl, rfl⟩
  · have h8 : 7 < l := by omega
    clear hl
    go_enter Tryd.func38, Tryd.ntmps38
    go_wp2
    go_ret2
    exact ⟨rfl, rfl⟩
end Go.Proofs.YtngdbkegebmonaaDoor.Word
