/-
  Walks over package hash (layer 2) and its reference: what each function returns.
-/
import Derived.Test.YtgghlecpdgjnlaaRows
import Derived.WalkKit
import Derived.WalkSpells
import Derived.WalkLawsBesides
import Derived.Lib.Hide
import Derived.Handy
import Derived.BigQuiet
import Derived.Deep.QuietTactic
import Derived.Deep.RegionHeld3
namespace Go.Proofs.Ytgghlecpdgjnlaa.Hash
open Go.RowKit

theorem ret_int {k : IntKind} {a b : Int} (h : a = b) : Ending.returned (.int k a) = .returned (.int k b) := by rw [h]
def Word (x : Int) : Prop := 0 ≤ x ∧ x < 18446744073709551616
def mixI (x : Int) : Int :=
  bits .xor .u64 (IntKind.u64.wrap (5 * bits .xor .u64 x (x / 536870912))) (IntKind.u64.wrap (5 * bits .xor .u64 x (x / 536870912)) / 4294967296)

set_option maxHeartbeats 400000 in
theorem mix_any (x : Int) (_h0 : 0 ≤ x) (w : World) :
    Calls Try.prog 31 #[.int .u64 x] w fun e w' => e = .returned (.int .u64 (mixI x)) ∧ w = w' := by
  go_enter Try.func31, Try.ntmps31
  go_wp2
  go_ret
  exact ⟨rfl, rfl⟩

theorem half (x : Int) (k : Nat) : x / 2 ^ k / 2 = x / 2 ^ (k + 1) := by
  rw [Int.ediv_ediv_of_nonneg (Int.pow_nonneg (by decide)), Int.pow_succ]

theorem u64_in (x : Int) (h0 : 0 ≤ x) (h1 : x < 18446744073709551616) : IntKind.u64.wrap x = x := by
  rw [IntKind.wrap_u64]; omega
theorem half_wrap (x : Int) (k : Nat) (h0 : 0 ≤ x) (h1 : x < 18446744073709551616) : IntKind.u64.wrap ((x / 2 ^ k).tdiv 2) = x / 2 ^ (k + 1) := by
  have hp : 0 ≤ x / 2 ^ k := Int.ediv_nonneg h0 (Int.pow_nonneg (by decide))
  have hq : x / 2 ^ k ≤ x := Int.ediv_le_self _ h0
  rw [Int.tdiv_eq_ediv_of_nonneg hp, ← half, u64_in] <;> omega

set_option maxHeartbeats 400000 in
theorem right_any (x : Int) (n : Nat) (h0 : 0 ≤ x) (h1 : x < 18446744073709551616) (hn : n ≤ 64) (w : World) :
    Calls Try.prog 48 #[.int .u64 x, .int .i64 n] w fun e w' => e = .returned (.int .u64 (x / 2 ^ n)) ∧ w = w' := by
  go_enter Try.func48, Try.ntmps48
  go_wp2
  go_loop [0, 5] (fun y i => ∃ k : Nat, k ≤ n ∧ i = .int .i64 k ∧ y = .int .u64 (x / 2 ^ k)) (fun _ i => n - (intOf i).toNat)
  case atStart => exact ⟨0, Nat.zero_le _, rfl, by simp⟩
  case round =>
    obtain ⟨k, hk, rfl, rfl⟩ := hrel
    have hp := half_wrap x k h0 h1
    have HP := Lib.hid hp
    clear hp
    by_cases hlt : k < n
    · go_wp2
      go_round
      case rel => exact ⟨k + 1, by omega, by go_num, by rw [HP.out]⟩
      case measure => simp [intOf]; omega
    · have : k = n := by omega
      subst this
      go_wp2
      go_ret
      exact ⟨rfl, rfl⟩

set_option maxHeartbeats 400000 in
theorem tag_any (x : Int) (w : World) :
    Calls Try.prog 38 #[.int .u64 x] w fun e w' => e = .returned (.int .u8 (bits .and .u64 x 127 % 256)) ∧ w = w' := by
  go_enter Try.func38, Try.ntmps38
  go_wp2
  go_ret
  exact ⟨rfl, rfl⟩
set_option maxHeartbeats 400000 in
theorem part_any (x : Int) (_h0 : 0 ≤ x) (w : World) :
    Calls Try.prog 40 #[.int .u64 x] w fun e w' => e = .returned (.int .u64 (x / 128)) ∧ w = w' := by
  go_enter Try.func40, Try.ntmps40
  go_wp2
  go_ret
  exact ⟨rfl, rfl⟩
set_option maxHeartbeats 400000 in
theorem rtag_any (x : Int) (h0 : 0 ≤ x) (w : World) :
    Calls Try.prog 39 #[.int .u64 x] w fun e w' => e = .returned (.int .u8 (x % 128)) ∧ w = w' := by
  go_enter Try.func39, Try.ntmps39
  go_wp2
  go_ret
  exact ⟨by simp [*], rfl⟩
set_option maxHeartbeats 400000 in
theorem rpart_any (x : Int) (h0 : 0 ≤ x) (h1 : x < 18446744073709551616) (w : World) :
    Calls Try.prog 41 #[.int .u64 x] w fun e w' => e = .returned (.int .u64 (x / 128)) ∧ w = w' := by
  go_enter Try.func41, Try.ntmps41
  go_wp2_with fail
  refine (right_any x 7 h0 h1 (by decide) _).mono ?_
  rintro e w' ⟨rfl, rfl⟩
  go_wp2_with fail
  go_ret
  exact ⟨rfl, rfl⟩

/-- the reference's sum of five -/
def rmixI (x : Int) : Int :=
  let y := bits .xor .u64 x (x / 2 ^ 29)
  let z := IntKind.u64.wrap (IntKind.u64.wrap (IntKind.u64.wrap (IntKind.u64.wrap (y + y) + y) + y) + y)
  bits .xor .u64 z (z / 2 ^ 32)
theorem rmix_eq (x : Int) : rmixI x = mixI x := by
  unfold rmixI mixI
  have h : ∀ y : Int, IntKind.u64.wrap (IntKind.u64.wrap (IntKind.u64.wrap (IntKind.u64.wrap (y + y) + y) + y) + y) = IntKind.u64.wrap (5 * y) := by
    intro y; simp only [IntKind.wrap_u64]; omega
  simp only [h]; rfl
theorem xor_word (x y : Int) : Word (bits .xor .u64 x y) := by
  unfold bits Word
  rw [IntKind.wrap_u64]; omega
theorem wrap_word (y : Int) : Word (IntKind.u64.wrap y) := by
  unfold Word
  rw [IntKind.wrap_u64]; omega

set_option maxHeartbeats 400000 in
theorem rmix_any (x : Int) (h0 : 0 ≤ x) (h1 : x < 18446744073709551616) (w : World) :
    Calls Try.prog 32 #[.int .u64 x] w fun e w' => e = .returned (.int .u64 (mixI x)) ∧ w = w' := by
  rw [← rmix_eq]
  go_enter Try.func32, Try.ntmps32
  go_wp2_with fail
  refine (right_any x 29 h0 h1 (by decide) _).mono ?_
  rintro e w' ⟨rfl, rfl⟩
  go_wp2_with fail
  refine (right_any _ 32 (wrap_word _).1 (wrap_word _).2 (by decide) _).mono ?_
  rintro e w' ⟨rfl, rfl⟩
  go_wp2_with fail
  go_ret
  exact ⟨rfl, rfl⟩

/-! ### the hash of a key -/
def stepI (h : Int) (b : UInt8) : Int := IntKind.u64.wrap (bits .xor .u64 h (IntKind.u64.wrap b.toNat) * 1099511628211)
def foldI (h : Int) (l : List UInt8) : Int := l.foldl stepI h
theorem fold_snoc (h : Int) (s : ByteArray) (k : Nat) (hk : k < s.size) :
    foldI h (s.data.toList.take (k + 1)) = IntKind.u64.wrap (bits .xor .u64 (foldI h (s.data.toList.take k)) (IntKind.u64.wrap s[k].toNat) * 1099511628211) := by
  rw [List.take_succ_eq_append_getElem (by simpa using hk)]
  unfold foldI
  rw [List.foldl_append]
  rfl
theorem fold_word (h : Int) (hw : Word h) (l : List UInt8) : Word (foldI h l) := by
  unfold foldI
  induction l generalizing h with
  | nil => exact hw
  | cons b l ih => exact ih _ (wrap_word _)

set_option maxHeartbeats 400000 in
theorem fold_any (h : Int) (s : ByteArray) (hs : s.size ≤ maxLen) (w : World) :
    Calls Try.prog 49 #[.int .u64 h, .string s] w fun e w' => e = .returned (.int .u64 (foldI h s.data.toList)) ∧ w = w' := by
  unfold maxLen at hs
  go_enter Try.func49, Try.ntmps49
  go_wp2
  go_loop [0, 5, 8] (fun y _ i => ∃ k : Nat, k ≤ s.size ∧ i = .int .i64 k ∧ y = .int .u64 (foldI h (s.data.toList.take k))) (fun _ _ i => s.size - (intOf i).toNat)
  case atStart => exact ⟨0, Nat.zero_le _, rfl, rfl⟩
  case round =>
    obtain ⟨k, hk, rfl, rfl⟩ := hrel
    by_cases hlt : k < s.size
    · have HS := Lib.hid (fold_snoc h s k hlt)
      go_wp2
      go_round
      case rel => exact ⟨k + 1, by omega, by go_num, by rw [HS.out]⟩
      case measure => simp [intOf]; omega
    · go_wp2
      go_ret
      exact ⟨ret_int (by rw [List.take_of_length_le (by simp; omega)]), rfl⟩

set_option maxHeartbeats 400000 in
theorem new_any (s : Int) (b : Bool) (w : World) :
    Calls Try.prog 34 #[.int .u64 s, .bool b] w fun e w' => e = .returned (.agg #[.int .u64 s, .bool b]) ∧ Below w.heap.size w w' := by
  go_enter Try.func34, Try.ntmps34
  go_wp2
  refine bodyPost_ret (v := .agg #[.int .u64 s, .bool b]) (by simp [results, Try.results34, go_sem]) rfl ⟨rfl, ?_⟩
  go_grown

set_option maxHeartbeats 400000 in
theorem seed_any (s : Int) (b : Bool) (w : World) :
    Calls Try.prog 35 #[.agg #[.int .u64 s, .bool b]] w fun e w' => e = .returned (.tuple #[.int .u64 s, .bool b]) ∧ Below w.heap.size w w' := by
  go_enter Try.func35, Try.ntmps35
  go_wp2
  go_quiet (fail)
  go_wp2
  go_ret2
  exact ⟨rfl, below_drewN (by go_grown) _⟩

/-- what Sum returns -/
def sumI (s : Int) (b : Bool) (l : List UInt8) : Int := if b then mixI s else mixI (foldI s l)

set_option maxHeartbeats 400000 in
theorem sum_any (s : Int) (hs : Word s) (b : Bool) (k : ByteArray) (hk : k.size ≤ maxLen) (w : World) :
    Calls Try.prog 36 #[.agg #[.int .u64 s, .bool b], .string k] w fun e w' => e = .returned (.int .u64 (sumI s b k.data.toList)) ∧ Below w.heap.size w w' := by
  cases b
  · go_enter Try.func36, Try.ntmps36
    go_wp2_with fail
    refine (fold_any s k hk _).mono ?_
    rintro e w' ⟨rfl, rfl⟩
    go_wp2_with fail
    refine (mix_any _ (fold_word s hs _).1 _).mono ?_
    rintro e w' ⟨rfl, rfl⟩
    go_wp2_with fail
    go_ret
    exact ⟨rfl, by go_grown⟩
  · go_enter Try.func36, Try.ntmps36
    go_wp2_with fail
    refine (mix_any _ hs.1 _).mono ?_
    rintro e w' ⟨rfl, rfl⟩
    go_wp2_with fail
    go_ret
    exact ⟨rfl, by go_grown⟩

set_option maxHeartbeats 400000 in
theorem rsum_any (s : Int) (hs : Word s) (b : Bool) (k : ByteArray) (hk : k.size ≤ maxLen) (w : World) :
    Calls Try.prog 37 #[.int .u64 s, .bool b, .string k] w fun e w' => e = .returned (.int .u64 (sumI s b k.data.toList)) ∧ w = w' := by
  unfold maxLen at hk
  cases b
  · go_enter Try.func37, Try.ntmps37
    go_wp2
    go_loop [7, 8] (fun y i => ∃ j : Nat, j ≤ k.size ∧ i = .int .i64 j ∧ y = .int .u64 (foldI s (k.data.toList.take j))) (fun _ i => k.size - (intOf i).toNat)
    case atStart => exact ⟨0, Nat.zero_le _, rfl, rfl⟩
    case round =>
      obtain ⟨j, hj, rfl, rfl⟩ := hrel
      by_cases hlt : j < k.size
      · have HS := Lib.hid (fold_snoc s k j hlt)
        go_wp2
        go_round
        case rel => exact ⟨j + 1, by omega, by go_num, by rw [HS.out, Int.mul_comm]⟩
        case measure => simp [intOf]; omega
      · go_wp2_with fail
        refine (rmix_any _ (fold_word s hs _).1 (fold_word s hs _).2 _).mono ?_
        rintro e w' ⟨rfl, rfl⟩
        go_wp2_with fail
        go_ret
        exact ⟨ret_int (by rw [List.take_of_length_le (by simp; omega)]; rfl), rfl⟩
  · go_enter Try.func37, Try.ntmps37
    go_wp2
    go_loop [7, 8] (fun y i => i = .int .i64 0 ∧ y = .int .u64 s) (fun _ _ => 0)
    case atStart => exact ⟨rfl, rfl⟩
    case round =>
      obtain ⟨rfl, rfl⟩ := hrel
      go_wp2_with fail
      all_goals
        refine (rmix_any _ hs.1 hs.2 _).mono ?_
        rintro e w' ⟨rfl, rfl⟩
        go_wp2_with fail
        go_ret
        exact ⟨rfl, rfl⟩

/-! ### the examples of the chapter, and the five laws -/
theorem tr {a b c : World} (h : Below a.heap.size a b) (k : Below b.heap.size b c) : Below a.heap.size a c := h.trans (k.mono h.size)
theorem bcell {W w1 : World} (hb : Below W.heap.size W w1) : (∀ b o, b < W.heap.size → w1.cell? ⟨b, o, none⟩ = W.cell? ⟨b, o, none⟩) ∧ (∀ b o, b < W.heap.size → w1.frozen? ⟨b, o, none⟩ = W.frozen? ⟨b, o, none⟩) ∧ W.heap.size ≤ w1.heap.size :=
  ⟨fun b o h => hb.cell (p := ⟨b, o, none⟩) h, fun b o h => hb.frozen (p := ⟨b, o, none⟩) h, hb.size⟩

set_option maxHeartbeats 1000000 in
theorem known_any (w : World) :
    Calls Try.prog 33 #[] w fun e w' => e = .returned (.bool true) ∧ Below w.heap.size w w' := by
  have m0 : mixI 0 = 0 := by decide +kernel
  have m1 : mixI 1 = 5 := by decide +kernel
  have m2 : mixI 536870912 = 2684354565 := by decide +kernel
  have q0 : sumI 0 false [] = 0 := by decide +kernel
  have q1 : sumI 0 false [97] = 533263140750623 := by decide +kernel
  have q2 : sumI 7 true [97] = 35 := by decide +kernel
  have q3 : sumI 7 true [98] = 35 := by decide +kernel
  have t0 : bits BinOp.and IntKind.u64 533263140750623 127 = 31 := by decide +kernel
  have t1 : bits BinOp.and IntKind.u64 127 127 = 127 := by decide +kernel
  have t2 : bits BinOp.and IntKind.u64 128 127 = 0 := by decide +kernel
  go_enter Try.func33, Try.ntmps33
  go_wp2_with (go_at_call 31; refine (mix_any _ (by decide) _).mono ?_; rintro e w' ⟨rfl, rfl⟩)
  refine (new_any 0 false _).mono ?_
  rintro e w1 ⟨rfl, b1⟩
  go_wp2_with fail
  refine (new_any 7 true _).mono ?_
  rintro e w2 ⟨rfl, b2⟩
  go_wp2_with fail
  refine (seed_any 7 true _).mono ?_
  rintro e w3 ⟨rfl, b3⟩
  obtain ⟨c3, f3, s3⟩ := bcell b3
  simp at s3
  have z3 : w2.heap.size + 1 < w3.heap.size := by omega
  have y3 : w2.heap.size < w3.heap.size := by omega
  go_wp2_with fail
  refine (sum_any 0 ⟨by decide, by decide⟩ false ⟨#[]⟩ (by decide) _).mono ?_
  rintro e w4 ⟨rfl, b4⟩
  obtain ⟨c4, f4, s4⟩ := bcell b4
  have z4 : w2.heap.size + 1 < w4.heap.size := by omega
  have y4 : w2.heap.size < w4.heap.size := by omega
  go_wp2_with fail
  refine (sum_any 0 ⟨by decide, by decide⟩ false ⟨#[97]⟩ (by decide) _).mono ?_
  rintro e w5 ⟨rfl, b5⟩
  obtain ⟨c5, f5, s5⟩ := bcell b5
  have z5 : w2.heap.size + 1 < w5.heap.size := by omega
  have y5 : w2.heap.size < w5.heap.size := by omega
  go_wp2_with fail
  refine (sum_any 7 ⟨by decide, by decide⟩ true ⟨#[97]⟩ (by decide) _).mono ?_
  rintro e w6 ⟨rfl, b6⟩
  obtain ⟨c6, f6, s6⟩ := bcell b6
  have z6 : w2.heap.size + 1 < w6.heap.size := by omega
  have y6 : w2.heap.size < w6.heap.size := by omega
  go_wp2_with fail
  refine (sum_any 7 ⟨by decide, by decide⟩ true ⟨#[98]⟩ (by decide) _).mono ?_
  rintro e w7 ⟨rfl, b7⟩
  obtain ⟨c7, f7, s7⟩ := bcell b7
  have z7 : w2.heap.size + 1 < w7.heap.size := by omega
  have y7 : w2.heap.size < w7.heap.size := by omega
  go_wp2_with (first | (go_at_call 38; refine (tag_any _ _).mono ?_; rintro e w' ⟨rfl, rfl⟩) | (go_at_call 40; refine (part_any _ (by decide) _).mono ?_; rintro e w' ⟨rfl, rfl⟩))
  go_ret
  refine ⟨rfl, ?_⟩
  exact tr (tr (tr (tr (tr (tr (tr b1 b2) (by go_grown)) b3) b4) b5) b6) b7

theorem and127 (x : Int) (h0 : 0 ≤ x) (h1 : x < 18446744073709551616) : bits .and .u64 x 127 = x % 128 := by
  rw [u64_and x 127 h0 h1 (by decide) (by decide)]
  rw [show (127 : Int).toNat = 127 from rfl, nat_mask7]
  omega

set_option maxHeartbeats 400000 in
theorem mixes_any (x : Int) (h0 : 0 ≤ x) (h1 : x < 18446744073709551616) (w : World) :
    Calls Try.prog 8 #[.int .u64 x] w fun e w' => e = .returned (.bool true) ∧ Below w.heap.size w w' := by
  go_enter Try.func8, Try.ntmps8
  go_wp2_with fail
  refine (mix_any _ h0 _).mono ?_
  rintro e w1 ⟨rfl, rfl⟩
  go_wp2_with fail
  refine (rmix_any _ h0 h1 _).mono ?_
  rintro e w1 ⟨rfl, rfl⟩
  go_wp2_with fail
  refine (known_any _).mono ?_
  rintro e w1 ⟨rfl, b1⟩
  go_wp2_with fail
  go_ret
  exact ⟨rfl, b1⟩

set_option maxHeartbeats 400000 in
theorem parts_any (x : Int) (h0 : 0 ≤ x) (h1 : x < 18446744073709551616) (w : World) :
    Calls Try.prog 10 #[.int .u64 x] w fun e w' => e = .returned (.bool true) ∧ Below w.heap.size w w' := by
  have e1 : bits .and .u64 x 127 % 256 = x % 128 := by rw [and127 x h0 h1]; omega
  go_enter Try.func10, Try.ntmps10
  go_wp2_with fail
  refine (tag_any _ _).mono ?_
  rintro e w1 ⟨rfl, rfl⟩
  go_wp2_with fail
  refine (rtag_any _ h0 _).mono ?_
  rintro e w1 ⟨rfl, rfl⟩
  go_wp2_with fail
  refine (part_any _ h0 _).mono ?_
  rintro e w1 ⟨rfl, rfl⟩
  go_wp2_with fail
  refine (rpart_any _ h0 h1 _).mono ?_
  rintro e w1 ⟨rfl, rfl⟩
  go_wp2_with fail
  refine (known_any _).mono ?_
  rintro e w1 ⟨rfl, b1⟩
  go_wp2_with fail
  go_ret
  exact ⟨rfl, b1⟩

set_option maxHeartbeats 1000000 in
theorem sums_any (s : Int) (h0 : 0 ≤ s) (h1 : s < 18446744073709551616) (b : Bool) (k : ByteArray) (hk : k.size ≤ maxLen) (w : World) :
    Calls Try.prog 9 #[.int .u64 s, .bool b, .string k] w fun e w' => e = .returned (.bool true) ∧ Below w.heap.size w w' := by
  have hs : Word s := ⟨h0, h1⟩
  have hz : Word 0 := ⟨by decide, by decide⟩
  by_cases hl : 600 < k.size
  · go_enter Try.func9, Try.ntmps9
    go_wp2_with fail
    refine (known_any _).mono ?_
    rintro e w1 ⟨rfl, b1⟩
    go_wp2_with fail
    go_ret
    exact ⟨rfl, b1⟩
  · go_enter Try.func9, Try.ntmps9
    go_wp2_with fail
    refine (new_any s b _).mono ?_
    rintro e w1 ⟨rfl, b1⟩
    go_wp2_with fail
    refine (seed_any s b _).mono ?_
    rintro e w2 ⟨rfl, b2⟩
    obtain ⟨c2, f2, s2⟩ := bcell b2
    simp at s2
    have y2 : w1.heap.size < w2.heap.size := by omega
    go_wp2_with fail
    refine (sum_any s hs b k hk _).mono ?_
    rintro e w3 ⟨rfl, b3⟩
    obtain ⟨c3, f3, s3⟩ := bcell b3
    simp at s3
    have y3 : w1.heap.size < w3.heap.size := by omega
    have z3 : w2.heap.size < w3.heap.size := by omega
    go_wp2_with fail
    refine (rsum_any s hs b k hk _).mono ?_
    rintro e w3 ⟨rfl, rfl⟩
    go_wp2_with fail
    refine (sum_any 0 hz false k hk _).mono ?_
    rintro e w4 ⟨rfl, b4⟩
    go_wp2_with fail
    refine (rsum_any 0 hz false k hk _).mono ?_
    rintro e w4 ⟨rfl, rfl⟩
    go_wp2_with fail
    refine (known_any _).mono ?_
    rintro e w5 ⟨rfl, b5⟩
    go_wp2_with fail
    go_ret
    refine ⟨rfl, ?_⟩
    exact tr (tr (tr (tr (tr (tr b1 (by go_grown)) b2) (by go_grown)) b3) b4) b5

theorem tag2_any (x : Int) (h0 : 0 ≤ x) (h1 : x < 18446744073709551616) (w : World) :
    Calls Try.prog 38 #[.int .u64 x] w fun e w' => e = .returned (.int .u8 (x % 128)) ∧ w = w' := by
  have e1 : bits .and .u64 x 127 % 256 = x % 128 := by rw [and127 x h0 h1]; omega
  rw [← e1]; exact tag_any x w
theorem sumI_word (s : Int) (b : Bool) (l : List UInt8) : Word (sumI s b l) := by
  unfold sumI mixI
  split <;> exact xor_word _ _
theorem foldI_append (s : Int) (l m : List UInt8) : foldI s (l ++ m) = foldI (foldI s l) m := by
  unfold foldI; rw [List.foldl_append]
theorem sumI_append (s : Int) (l m : List UInt8) : sumI s false (l ++ m) = sumI (foldI s l) false m := by
  unfold sumI; rw [foldI_append]; rfl

set_option maxHeartbeats 1000000 in
theorem holds_any (s : Int) (h0 : 0 ≤ s) (h1 : s < 18446744073709551616) (a b : ByteArray) (ha : a.size ≤ maxLen) (hb : b.size ≤ maxLen) (w : World) :
    Calls Try.prog 12 #[.int .u64 s, .string a, .string b] w fun e w' => e = .returned (.bool true) ∧ Below w.heap.size w w' := by
  have hs : Word s := ⟨h0, h1⟩
  by_cases hl : 300 < a.size ∨ 300 < b.size
  · by_cases hl2 : 300 < a.size
    · go_enter Try.func12, Try.ntmps12
      go_wp2_with fail
      refine (known_any _).mono ?_
      rintro e w1 ⟨rfl, b1⟩
      go_wp2_with fail
      go_ret
      exact ⟨rfl, b1⟩
    · have hl3 : 300 < b.size := by omega
      clear hl
      go_enter Try.func12, Try.ntmps12
      go_wp2_with fail
      refine (known_any _).mono ?_
      rintro e w1 ⟨rfl, b1⟩
      go_wp2_with fail
      go_ret
      exact ⟨rfl, b1⟩
  · have l1 : a.size ≤ 300 := by omega
    have l2 : b.size ≤ 300 := by omega
    have l3 : (a ++ b).size ≤ maxLen := by rw [ByteArray.size_append]; unfold maxLen; omega
    clear hl
    go_enter Try.func12, Try.ntmps12
    go_wp2_with fail
    refine (new_any s false _).mono ?_
    rintro e w1 ⟨rfl, b1⟩
    go_wp2_with fail
    refine (sum_any s hs false (a ++ b) l3 _).mono ?_
    rintro e w2 ⟨rfl, b2⟩
    have hxw := sumI_word s false (a ++ b).data.toList
    generalize hx : sumI s false (a ++ b).data.toList = x at hxw
    have HX := Lib.hid hx
    clear hx
    obtain ⟨x0, x1⟩ := hxw
    have hne : (128 * (x / 128) + x % 128 != x) = false := by simp; omega
    have hp1 : x % 128 ≤ 127 := by omega
    have hp2 : x / 128 ≤ 144115188075855871 := by omega
    go_wp2_with (first | (go_at_call 38; refine (tag2_any x x0 x1 _).mono ?_; rintro e w' ⟨rfl, rfl⟩) | (go_at_call 40; refine (part_any x x0 _).mono ?_; rintro e w' ⟨rfl, rfl⟩))
    go_loop [8, 9] (fun y i => ∃ j : Nat, j ≤ a.size ∧ i = .int .i64 j ∧ y = .int .u64 (foldI s (a.data.toList.take j))) (fun _ i => a.size - (intOf i).toNat)
    case atStart => exact ⟨0, Nat.zero_le _, rfl, rfl⟩
    case round =>
      obtain ⟨j, hj, rfl, rfl⟩ := hrel
      by_cases hlt : j < a.size
      · have HS := Lib.hid (fold_snoc s a j hlt)
        go_wp2
        go_round
        case rel => exact ⟨j + 1, by omega, by go_num, by rw [HS.out]⟩
        case measure => simp [intOf]; omega
      · have hT : List.take j a.data.toList = a.data.toList := List.take_of_length_le (by simp; omega)
        have hM : sumI s false a.data.toList = mixI (foldI s a.data.toList) := rfl
        have hW := fold_word s hs a.data.toList
        have hN : sumI (foldI s a.data.toList) false b.data.toList = x := by
          rw [← sumI_append]; simpa using HX.out
        have HW := Lib.hid hW
        clear hW
        go_wp2_with fail
        refine (mix_any _ HW.out.1 _).mono ?_
        rintro e w3 ⟨rfl, rfl⟩
        go_wp2_with fail
        refine (new_any _ false _).mono ?_
        rintro e w3 ⟨rfl, b3⟩
        go_wp2_with fail
        refine (sum_any s hs false a ha _).mono ?_
        rintro e w4 ⟨rfl, b4⟩
        go_wp2_with fail
        refine (new_any _ false _).mono ?_
        rintro e w5 ⟨rfl, b5⟩
        go_wp2_with fail
        refine (sum_any _ HW.out false b hb _).mono ?_
        rintro e w6 ⟨rfl, b6⟩
        go_wp2_with fail
        refine (known_any _).mono ?_
        rintro e w7 ⟨rfl, b7⟩
        go_wp2_with fail
        go_ret
        exact ⟨rfl, tr (tr (tr (tr (tr (tr b1 b2) b3) b4) b5) b6) b7⟩

theorem bkeep {w0 a b : World} {q : Nat} {x0 x1 x2 x3 : Value} (k : Below a.heap.size a b)
    (h1 : a.cell? ⟨q, 0, none⟩ = some x0) (h2 : a.cell? ⟨q, 1, none⟩ = some x1) (h3 : a.cell? ⟨q + 1, 0, none⟩ = some x2) (h4 : a.cell? ⟨q + 1, 1, none⟩ = some x3)
    (h5 : q + 1 < a.heap.size) (h6 : Below w0.heap.size w0 a) :
    b.cell? ⟨q, 0, none⟩ = some x0 ∧ b.cell? ⟨q, 1, none⟩ = some x1 ∧ b.cell? ⟨q + 1, 0, none⟩ = some x2 ∧ b.cell? ⟨q + 1, 1, none⟩ = some x3 ∧ q + 1 < b.heap.size ∧ Below w0.heap.size w0 b := by
  obtain ⟨c, _, s⟩ := bcell k
  exact ⟨by rw [c _ _ (by omega)]; exact h1, by rw [c _ _ (by omega)]; exact h2, by rw [c _ _ (by omega)]; exact h3, by rw [c _ _ (by omega)]; exact h4, by omega, tr h6 k⟩

theorem bkeep2 {w0 a b : World} {q : Nat} {x0 x1 x2 x3 : Value} (k : Below a.heap.size a b)
    (h : a.cell? ⟨q, 0, none⟩ = some x0 ∧ a.cell? ⟨q, 1, none⟩ = some x1 ∧ a.cell? ⟨q + 1, 0, none⟩ = some x2 ∧ a.cell? ⟨q + 1, 1, none⟩ = some x3 ∧ q + 1 < a.heap.size ∧ Below w0.heap.size w0 a) :
    b.cell? ⟨q, 0, none⟩ = some x0 ∧ b.cell? ⟨q, 1, none⟩ = some x1 ∧ b.cell? ⟨q + 1, 0, none⟩ = some x2 ∧ b.cell? ⟨q + 1, 1, none⟩ = some x3 ∧ q + 1 < b.heap.size ∧ Below w0.heap.size w0 b := by
  obtain ⟨h1, h2, h3, h4, h5, h6⟩ := h
  exact bkeep k h1 h2 h3 h4 h5 h6

set_option maxHeartbeats 1000000 in
theorem same_any (s : Int) (h0 : 0 ≤ s) (h1 : s < 18446744073709551616) (a b : ByteArray) (ha : a.size ≤ maxLen) (hb : b.size ≤ maxLen) (w : World) :
    Calls Try.prog 11 #[.int .u64 s, .string a, .string b] w fun e w' => e = .returned (.bool true) ∧ Below w.heap.size w w' := by
  have hs : Word s := ⟨h0, h1⟩
  by_cases hl : 600 < a.size ∨ 600 < b.size
  · by_cases hl2 : 600 < a.size
    · go_enter Try.func11, Try.ntmps11
      go_wp2_with fail
      refine (known_any _).mono ?_
      rintro e w1 ⟨rfl, b1⟩
      go_wp2_with fail
      go_ret
      exact ⟨rfl, b1⟩
    · have hl3 : 600 < b.size := by omega
      clear hl
      go_enter Try.func11, Try.ntmps11
      go_wp2_with fail
      refine (known_any _).mono ?_
      rintro e w1 ⟨rfl, b1⟩
      go_wp2_with fail
      go_ret
      exact ⟨rfl, b1⟩
  · have l1 : a.size ≤ 600 := by omega
    have l2 : b.size ≤ 600 := by omega
    clear hl
    have k1 : sumI s true a.data.toList = mixI s := rfl
    have k2 : sumI s true b.data.toList = mixI s := rfl
    have k3 : sumI s false [] = mixI s := rfl
    go_enter Try.func11, Try.ntmps11
    go_wp2_with fail
    refine (new_any s true _).mono ?_
    rintro e w1 ⟨rfl, b1⟩
    go_wp2_with fail
    refine (new_any s false _).mono ?_
    rintro e w2 ⟨rfl, b2⟩
    go_wp2_with fail
    go_region_held3 (fun w' => w'.cell? ⟨w2.heap.size, 0, none⟩ = some (.int .u64 s) ∧ w'.cell? ⟨w2.heap.size, 1, none⟩ = some (.bool true) ∧ w'.cell? ⟨w2.heap.size + 1, 0, none⟩ = some (.int .u64 s) ∧ w'.cell? ⟨w2.heap.size + 1, 1, none⟩ = some (.bool false) ∧ w2.heap.size + 1 < w'.heap.size ∧ Below w.heap.size w w')
      (first
        | (exact bkeep2 o1 (by assumption))
        | (refine bkeep o1 ?_ ?_ ?_ ?_ ?_ ?_ <;> first | assumption | (simp [go_sem]; done) | (simp; done) | exact Below.drew (tr (tr b1 b2) (by go_grown)))
        | (refine ⟨?_, ?_, ?_, ?_, ?_, ?_⟩ <;> first | (simp [go_sem]; done) | (simp; done) | exact Below.drew (tr (tr b1 b2) (by go_grown))))
      (first
        | (go_at_call 34; refine (new_any s _ _).mono ?_; rintro e w' ⟨rfl, o1⟩)
        | (go_at_call 36; refine (sum_any s hs _ _ (by first | exact ha | exact hb | decide) _).mono ?_; rintro e w' ⟨rfl, o1⟩)
        | (go_at_call 33; refine (known_any _).mono ?_; rintro e w' ⟨rfl, o1⟩))
    go_wp2
    go_ret
    rename_i hh
    exact ⟨rfl, hh.2.2.2.2.2⟩
end Go.Proofs.Ytgghlecpdgjnlaa.Hash
