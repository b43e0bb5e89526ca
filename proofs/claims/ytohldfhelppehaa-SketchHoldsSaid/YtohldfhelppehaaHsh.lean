/-
  Walks over package hash (layer 2) and its reference: the hash of a key.
-/
import Derived.Test.YtohldfhelppehaaProg
import Derived.WalkKit
import Derived.WalkSpells
import Derived.WalkLawsBesides
import Derived.Lib.Hide
import Derived.Handy
import Derived.BigQuiet
import Derived.Deep.QuietTactic
import Derived.Deep.RegionHeld3
set_option linter.unusedVariables false
set_option linter.unusedSimpArgs false
namespace Go.Proofs.Ytohldfhelppehaa.Hash
open Go.RowKit

theorem ret_int {k : IntKind} {a b : Int} (h : a = b) : Ending.returned (.int k a) = .returned (.int k b) := by rw [h]
def Word (x : Int) : Prop := 0 ≤ x ∧ x < 18446744073709551616
def mixI (x : Int) : Int :=
  bits .xor .u64 (IntKind.u64.wrap (5 * bits .xor .u64 x (x / 536870912))) (IntKind.u64.wrap (5 * bits .xor .u64 x (x / 536870912)) / 4294967296)

set_option maxHeartbeats 400000 in
theorem mix_any (x : Int) (_h0 : 0 ≤ x) (w : World) :
    Calls Try.prog 71 #[.int .u64 x] w fun e w' => e = .returned (.int .u64 (mixI x)) ∧ w = w' := by
  go_enter Try.func71, Try.ntmps71
  go_wp2
  go_ret
  exact ⟨rfl, rfl⟩

theorem half (x : Int) (k : Nat) : x / 2 ^ k / 2 = x / 2 ^ (k + 1) := by
  rw [Int.ediv_ediv_of_nonneg (Int.pow_nonneg (by decide)), Int.pow_succ]

theorem u64_in (x : Int) (h0 : 0 ≤ x) (h1 : x < 18446744073709551616) : IntKind.u64.wrap x = x := by
  rw [IntKind.wrap_u64]; omega
theorem half_wrap (x : Int) (k : Nat) (h0 : 0 ≤ x) (h1 : x < 18446744073709551616) : IntKind.u64.wrap ((x / 2 ^ k).tdiv 2) = x / 2 ^ (k + 1) := by
  have hp : 0 ≤ x / 2 ^ k := Int.ediv_nonneg h0 (Int.pow_nonneg (by decide))
  have hq : x / 2 ^ k ≤ x := Int.ediv_le_self _ h0
  rw [Int.tdiv_eq_ediv_of_nonneg hp, ← half, u64_in] <;> omega

set_option maxHeartbeats 400000 in
theorem right_any (x : Int) (n : Nat) (h0 : 0 ≤ x) (h1 : x < 18446744073709551616) (hn : n ≤ 64) (w : World) :
    Calls Try.prog 70 #[.int .u64 x, .int .i64 n] w fun e w' => e = .returned (.int .u64 (x / 2 ^ n)) ∧ w = w' := by
  go_enter Try.func70, Try.ntmps70
  go_wp2
  go_loop [0, 5] (fun y i => ∃ k : Nat, k ≤ n ∧ i = .int .i64 k ∧ y = .int .u64 (x / 2 ^ k)) (fun _ i => n - (intOf i).toNat)
  case atStart => exact ⟨0, Nat.zero_le _, rfl, by simp⟩
  case round =>
    obtain ⟨k, hk, rfl, rfl⟩ := hrel
    have hp := half_wrap x k h0 h1
    have HP := Lib.hid hp
    clear hp
    by_cases hlt : k < n
    · go_wp2
      go_round
      case rel => exact ⟨k + 1, by omega, by go_num, by rw [HP.out]⟩
      case measure => simp [intOf]; omega
    · have : k = n := by omega
      subst this
      go_wp2
      go_ret
      exact ⟨rfl, rfl⟩

/-- the reference's sum of five -/
def rmixI (x : Int) : Int :=
  let y := bits .xor .u64 x (x / 2 ^ 29)
  let z := IntKind.u64.wrap (IntKind.u64.wrap (IntKind.u64.wrap (IntKind.u64.wrap (y + y) + y) + y) + y)
  bits .xor .u64 z (z / 2 ^ 32)
theorem rmix_eq (x : Int) : rmixI x = mixI x := by
  unfold rmixI mixI
  have h : ∀ y : Int, IntKind.u64.wrap (IntKind.u64.wrap (IntKind.u64.wrap (IntKind.u64.wrap (y + y) + y) + y) + y) = IntKind.u64.wrap (5 * y) := by
    intro y; simp only [IntKind.wrap_u64]; omega
  simp only [h]; rfl
theorem xor_word (x y : Int) : Word (bits .xor .u64 x y) := by
  unfold bits Word
  rw [IntKind.wrap_u64]; omega
theorem wrap_word (y : Int) : Word (IntKind.u64.wrap y) := by
  unfold Word
  rw [IntKind.wrap_u64]; omega

set_option maxHeartbeats 400000 in
theorem rmix_any (x : Int) (h0 : 0 ≤ x) (h1 : x < 18446744073709551616) (w : World) :
    Calls Try.prog 68 #[.int .u64 x] w fun e w' => e = .returned (.int .u64 (mixI x)) ∧ w = w' := by
  rw [← rmix_eq]
  go_enter Try.func68, Try.ntmps68
  go_wp2_with fail
  refine (right_any x 29 h0 h1 (by decide) _).mono ?_
  rintro e w' ⟨rfl, rfl⟩
  go_wp2_with fail
  refine (right_any _ 32 (wrap_word _).1 (wrap_word _).2 (by decide) _).mono ?_
  rintro e w' ⟨rfl, rfl⟩
  go_wp2_with fail
  go_ret
  exact ⟨rfl, rfl⟩

/-! ### the hash of a key -/
def stepI (h : Int) (b : UInt8) : Int := IntKind.u64.wrap (bits .xor .u64 h (IntKind.u64.wrap b.toNat) * 1099511628211)
def foldI (h : Int) (l : List UInt8) : Int := l.foldl stepI h
theorem fold_snoc (h : Int) (s : ByteArray) (k : Nat) (hk : k < s.size) :
    foldI h (s.data.toList.take (k + 1)) = IntKind.u64.wrap (bits .xor .u64 (foldI h (s.data.toList.take k)) (IntKind.u64.wrap s[k].toNat) * 1099511628211) := by
  rw [List.take_succ_eq_append_getElem (by simpa using hk)]
  unfold foldI
  rw [List.foldl_append]
  rfl
theorem fold_word (h : Int) (hw : Word h) (l : List UInt8) : Word (foldI h l) := by
  unfold foldI
  induction l generalizing h with
  | nil => exact hw
  | cons b l ih => exact ih _ (wrap_word _)

set_option maxHeartbeats 400000 in
theorem fold_any (h : Int) (s : ByteArray) (hs : s.size ≤ maxLen) (w : World) :
    Calls Try.prog 72 #[.int .u64 h, .string s] w fun e w' => e = .returned (.int .u64 (foldI h s.data.toList)) ∧ w = w' := by
  unfold maxLen at hs
  go_enter Try.func72, Try.ntmps72
  go_wp2
  go_loop [0, 5, 8] (fun y _ i => ∃ k : Nat, k ≤ s.size ∧ i = .int .i64 k ∧ y = .int .u64 (foldI h (s.data.toList.take k))) (fun _ _ i => s.size - (intOf i).toNat)
  case atStart => exact ⟨0, Nat.zero_le _, rfl, rfl⟩
  case round =>
    obtain ⟨k, hk, rfl, rfl⟩ := hrel
    by_cases hlt : k < s.size
    · have HS := Lib.hid (fold_snoc h s k hlt)
      go_wp2
      go_round
      case rel => exact ⟨k + 1, by omega, by go_num, by rw [HS.out]⟩
      case measure => simp [intOf]; omega
    · go_wp2
      go_ret
      exact ⟨ret_int (by rw [List.take_of_length_le (by simp; omega)]), rfl⟩

set_option maxHeartbeats 400000 in
theorem new_any (s : Int) (b : Bool) (w : World) :
    Calls Try.prog 47 #[.int .u64 s, .bool b] w fun e w' => e = .returned (.agg #[.int .u64 s, .bool b]) ∧ Below w.heap.size w w' := by
  go_enter Try.func47, Try.ntmps47
  go_wp2
  refine bodyPost_ret (v := .agg #[.int .u64 s, .bool b]) (by simp [results, Try.results47, go_sem]) rfl ⟨rfl, ?_⟩
  go_grown

/-- what Sum returns -/
def sumI (s : Int) (b : Bool) (l : List UInt8) : Int := if b then mixI s else mixI (foldI s l)

set_option maxHeartbeats 400000 in
theorem sum_any (s : Int) (hs : Word s) (b : Bool) (k : ByteArray) (hk : k.size ≤ maxLen) (w : World) :
    Calls Try.prog 69 #[.agg #[.int .u64 s, .bool b], .string k] w fun e w' => e = .returned (.int .u64 (sumI s b k.data.toList)) ∧ Below w.heap.size w w' := by
  cases b
  · go_enter Try.func69, Try.ntmps69
    go_wp2_with fail
    refine (fold_any s k hk _).mono ?_
    rintro e w' ⟨rfl, rfl⟩
    go_wp2_with fail
    refine (mix_any _ (fold_word s hs _).1 _).mono ?_
    rintro e w' ⟨rfl, rfl⟩
    go_wp2_with fail
    go_ret
    exact ⟨rfl, by go_grown⟩
  · go_enter Try.func69, Try.ntmps69
    go_wp2_with fail
    refine (mix_any _ hs.1 _).mono ?_
    rintro e w' ⟨rfl, rfl⟩
    go_wp2_with fail
    go_ret
    exact ⟨rfl, by go_grown⟩

set_option maxHeartbeats 400000 in
theorem rsum_any (s : Int) (hs : Word s) (b : Bool) (k : ByteArray) (hk : k.size ≤ maxLen) (w : World) :
    Calls Try.prog 53 #[.int .u64 s, .bool b, .string k] w fun e w' => e = .returned (.int .u64 (sumI s b k.data.toList)) ∧ w = w' := by
  unfold maxLen at hk
  cases b
  · go_enter Try.func53, Try.ntmps53
    go_wp2
    go_loop [7, 8] (fun y i => ∃ j : Nat, j ≤ k.size ∧ i = .int .i64 j ∧ y = .int .u64 (foldI s (k.data.toList.take j))) (fun _ i => k.size - (intOf i).toNat)
    case atStart => exact ⟨0, Nat.zero_le _, rfl, rfl⟩
    case round =>
      obtain ⟨j, hj, rfl, rfl⟩ := hrel
      by_cases hlt : j < k.size
      · have HS := Lib.hid (fold_snoc s k j hlt)
        go_wp2
        go_round
        case rel => exact ⟨j + 1, by omega, by go_num, by rw [HS.out, Int.mul_comm]⟩
        case measure => simp [intOf]; omega
      · go_wp2_with fail
        refine (rmix_any _ (fold_word s hs _).1 (fold_word s hs _).2 _).mono ?_
        rintro e w' ⟨rfl, rfl⟩
        go_wp2_with fail
        go_ret
        exact ⟨ret_int (by rw [List.take_of_length_le (by simp; omega)]; rfl), rfl⟩
  · go_enter Try.func53, Try.ntmps53
    go_wp2
    go_loop [7, 8] (fun y i => i = .int .i64 0 ∧ y = .int .u64 s) (fun _ _ => 0)
    case atStart => exact ⟨rfl, rfl⟩
    case round =>
      obtain ⟨rfl, rfl⟩ := hrel
      go_wp2_with fail
      all_goals
        refine (rmix_any _ hs.1 hs.2 _).mono ?_
        rintro e w' ⟨rfl, rfl⟩
        go_wp2_with fail
        go_ret
        exact ⟨rfl, rfl⟩

theorem sumI_word (s : Int) (b : Bool) (l : List UInt8) : Word (sumI s b l) := by
  unfold sumI mixI
  split <;> exact xor_word _ _
end Go.Proofs.Ytohldfhelppehaa.Hash
