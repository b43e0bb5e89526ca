/-
  Walks over package bloom (layer 34): places, keys.
-/
import Derived.Test.YtohldfhelppehaaBloW
set_option linter.unusedVariables false
set_option linter.unusedSimpArgs false
namespace Go.Proofs.Ytohldfhelppehaa.Blo
open Go.RowKit Kit Hash
/-- the hash of a key, as a natural number -/
def sumN (sd : Int) (k : ByteArray) : Nat := (sumI sd false k.data.toList).toNat
theorem sumN_eq (sd : Int) (k : ByteArray) : sumI sd false k.data.toList = (sumN sd k : Int) := by
  have := sumI_word sd false k.data.toList
  unfold sumN; unfold Word at this; omega
theorem sumN_lt (sd : Int) (k : ByteArray) : sumN sd k < 18446744073709551616 := by
  have := sumI_word sd false k.data.toList
  unfold sumN; unfold Word at this; omega
theorem sumR (sd : Int) (hs : Word sd) (k : ByteArray) (hk : k.size ≤ maxLen) (w : World) :
    Calls Try.prog 69 #[.agg #[.int .u64 sd, .bool false], .string k] w fun e w' => e = .returned (.int .u64 (sumN sd k : Int)) ∧ Below w.heap.size w w' := by
  rw [← sumN_eq]; exact sum_any sd hs false k hk w
set_option maxRecDepth 100000 in
theorem each_has {p q n : Nat} {hs sd : Int} (ok : Ok n hs sd) (k : ByteArray) (hk : k.size ≤ maxLen) (ca cb : Nat) (J : Nat → World → Prop)
    (hJb : ∀ i W, J i W → Fb W p q n hs sd)
    (hJ : ∀ i W, J i W → i < hs.toNat → Calls Try.prog 56 #[.int .i64 (pl (sumN sd k) (64 * n) i : Nat), .pointer (some ⟨ca, 0, none⟩), .pointer (some ⟨cb, 0, none⟩)] W fun e W' => (∃ v, e = .returned v) ∧ J (i + 1) W')
    (W : World) (hJW : ∀ w', Below W.heap.size W w' → J 0 w') :
    Calls Try.prog 55 #[.pointer (some ⟨p, 0, none⟩), .string k, .func (.func 56) #[] #[.pointer (some ⟨ca, 0, none⟩), .pointer (some ⟨cb, 0, none⟩)]] W fun e W' => (∃ v, e = .returned v) ∧ J hs.toNat W' := by
  have HB := Lib.hid (fun w' h => hJb 0 w' (hJW w' h))
  have HS := Lib.hid (sumR sd ok.s k hk)
  have hl := sumN_lt sd k
  have h1 := ok.h1
  have h2 := ok.h2
  have n1 := ok.n1
  have n2 := ok.n2
  have hB0 := HB.out W (Below.refl _ _)
  have k1 := hB0.c1
  have k2 := hB0.c2
  clear hB0
  go_enter Try.func55, Try.ntmps55
  go_wp2_with fail
  refine (HS.out _).mono ?_
  rintro e w1 ⟨rfl, b1⟩
  generalize sumN sd k = x at *
  have e1 := low_bits x hl
  have e2 : bits .or .u64 ((x : Int) / 4294967296) 1 = ((pb x : Nat) : Int) := by have := high_bits x hl; rwa [Int.natCast_ediv] at this
  have hpb := pb_le hl
  have m1 := (HB.out _ b1).c0
  have HJ0 := Lib.hid (hJW _ b1)
  have HPL := Lib.hid (show ∀ j : Nat, pl x (64 * n) j = (x % 4294967296 + j * pb x) % (64 * n) from fun _ => rfl)
  generalize pb x = y at *
  go_wp2_with fail
  go_loopw [9, 25] (fun _ i wr => ∃ j : Nat, j ≤ hs.toNat ∧ i = .int .i64 j ∧ J j wr) (fun _ i _ => hs.toNat - (intOf i).toNat)
  case atStart => exact ⟨0, by omega, rfl, HJ0.out⟩
  case round =>
    obtain ⟨j, hj, rfl, hJr⟩ := hrel
    have hB := hJb _ _ hJr
    obtain ⟨cp, hcp, c3⟩ := hB.c3
    clear hB
    by_cases hlt : j < hs.toNat
    · have hlt2 : (j : Int) < hs := by omega
      have hjy : (j : Int) * (y : Int) ≤ 34359738368 := by
        have h0 : j * y ≤ 8 * 4294967296 := Nat.mul_le_mul (by omega) hpb
        have : ((j * y : Nat) : Int) ≤ 34359738368 := by omega
        rwa [Int.natCast_mul] at this
      have hjy0 : 0 ≤ (j : Int) * (y : Int) := Int.mul_nonneg (by omega) (by omega)
      have f1 : IntKind.u64.wrap ((j : Int) * (y : Int)) = (j : Int) * (y : Int) := IntWalk.u64_in _ (by omega)
      have f4 : ((64 : Int) * (n : Int) == 0) = false := by simp; omega
      have hplj : ((x : Int) % 4294967296 + (j : Int) * (y : Int)) % (64 * (n : Int)) = ((pl x (64 * n) j : Nat) : Int) := by
        rw [HPL.out]; simp
      have hpm : ((pl x (64 * n) j : Nat) : Int) < 64 * (n : Int) := by
        have : pl x (64 * n) j < 64 * n := pl_lt (by omega)
        omega
      have HC := Lib.hid (hJ j _ hJr hlt)
      have hz : (64 : Nat) * n ≤ 1048576 := by omega
      generalize pl x (64 * n) j = z at *
      have H6 := Lib.hid (show wrap64 (((x : Int) % 4294967296 + (j : Int) * (y : Int)) % (64 * (n : Int))) = (z : Int) by rw [hplj]; exact IntWalk.wrap64_in _ (by omega))
      clear hplj hz hpm
      go_wp2_with fail
      rw [H6.out]
      refine HC.out.mono ?_
      rintro e w3 ⟨⟨v, rfl⟩, hJ3⟩
      go_wp2_with fail
      go_roundw
      case rel => exact ⟨j + 1, by omega, by go_num, hJ3⟩
      case measure => simp [intOf] <;> omega
    · have hlt2 : ¬ (j : Int) < hs := by omega
      obtain rfl : j = hs.toNat := by omega
      go_wp2_with fail
      go_end0
      exact ⟨⟨_, rfl⟩, hJr⟩
set_option maxRecDepth 100000 in
theorem each_list {p q n : Nat} {hs sd : Int} (ok : Ok n hs sd) (k : ByteArray) (hk : k.size ≤ maxLen) (ca : Nat) (J : Nat → World → Prop)
    (hJb : ∀ i W, J i W → Fb W p q n hs sd)
    (hJ : ∀ i W, J i W → i < hs.toNat → Calls Try.prog 67 #[.int .i64 (pl (sumN sd k) (64 * n) i : Nat), .pointer (some ⟨ca, 0, none⟩)] W fun e W' => (∃ v, e = .returned v) ∧ J (i + 1) W')
    (W : World) (hJW : ∀ w', Below W.heap.size W w' → J 0 w') :
    Calls Try.prog 55 #[.pointer (some ⟨p, 0, none⟩), .string k, .func (.func 67) #[] #[.pointer (some ⟨ca, 0, none⟩)]] W fun e W' => (∃ v, e = .returned v) ∧ J hs.toNat W' := by
  have HB := Lib.hid (fun w' h => hJb 0 w' (hJW w' h))
  have HS := Lib.hid (sumR sd ok.s k hk)
  have hl := sumN_lt sd k
  have h1 := ok.h1
  have h2 := ok.h2
  have n1 := ok.n1
  have n2 := ok.n2
  have hB0 := HB.out W (Below.refl _ _)
  have k1 := hB0.c1
  have k2 := hB0.c2
  clear hB0
  go_enter Try.func55, Try.ntmps55
  go_wp2_with fail
  refine (HS.out _).mono ?_
  rintro e w1 ⟨rfl, b1⟩
  generalize sumN sd k = x at *
  have e1 := low_bits x hl
  have e2 : bits .or .u64 ((x : Int) / 4294967296) 1 = ((pb x : Nat) : Int) := by have := high_bits x hl; rwa [Int.natCast_ediv] at this
  have hpb := pb_le hl
  have m1 := (HB.out _ b1).c0
  have HJ0 := Lib.hid (hJW _ b1)
  have HPL := Lib.hid (show ∀ j : Nat, pl x (64 * n) j = (x % 4294967296 + j * pb x) % (64 * n) from fun _ => rfl)
  generalize pb x = y at *
  go_wp2_with fail
  go_loopw [9, 25] (fun _ i wr => ∃ j : Nat, j ≤ hs.toNat ∧ i = .int .i64 j ∧ J j wr) (fun _ i _ => hs.toNat - (intOf i).toNat)
  case atStart => exact ⟨0, by omega, rfl, HJ0.out⟩
  case round =>
    obtain ⟨j, hj, rfl, hJr⟩ := hrel
    have hB := hJb _ _ hJr
    obtain ⟨cp, hcp, c3⟩ := hB.c3
    clear hB
    by_cases hlt : j < hs.toNat
    · have hlt2 : (j : Int) < hs := by omega
      have hjy : (j : Int) * (y : Int) ≤ 34359738368 := by
        have h0 : j * y ≤ 8 * 4294967296 := Nat.mul_le_mul (by omega) hpb
        have : ((j * y : Nat) : Int) ≤ 34359738368 := by omega
        rwa [Int.natCast_mul] at this
      have hjy0 : 0 ≤ (j : Int) * (y : Int) := Int.mul_nonneg (by omega) (by omega)
      have f1 : IntKind.u64.wrap ((j : Int) * (y : Int)) = (j : Int) * (y : Int) := IntWalk.u64_in _ (by omega)
      have f4 : ((64 : Int) * (n : Int) == 0) = false := by simp; omega
      have hplj : ((x : Int) % 4294967296 + (j : Int) * (y : Int)) % (64 * (n : Int)) = ((pl x (64 * n) j : Nat) : Int) := by
        rw [HPL.out]; simp
      have hpm : ((pl x (64 * n) j : Nat) : Int) < 64 * (n : Int) := by
        have : pl x (64 * n) j < 64 * n := pl_lt (by omega)
        omega
      have HC := Lib.hid (hJ j _ hJr hlt)
      have hz : (64 : Nat) * n ≤ 1048576 := by omega
      generalize pl x (64 * n) j = z at *
      have H6 := Lib.hid (show wrap64 (((x : Int) % 4294967296 + (j : Int) * (y : Int)) % (64 * (n : Int))) = (z : Int) by rw [hplj]; exact IntWalk.wrap64_in _ (by omega))
      clear hplj hz hpm
      go_wp2_with fail
      rw [H6.out]
      refine HC.out.mono ?_
      rintro e w3 ⟨⟨v, rfl⟩, hJ3⟩
      go_wp2_with fail
      go_roundw
      case rel => exact ⟨j + 1, by omega, by go_num, hJ3⟩
      case measure => simp [intOf] <;> omega
    · have hlt2 : ¬ (j : Int) < hs := by omega
      obtain rfl : j = hs.toNat := by omega
      go_wp2_with fail
      go_end0
      exact ⟨⟨_, rfl⟩, hJr⟩
set_option maxRecDepth 100000 in
theorem each_add {p q n : Nat} {hs sd : Int} (ok : Ok n hs sd) (k : ByteArray) (hk : k.size ≤ maxLen) (ca cb : Nat) (J : Nat → World → Prop)
    (hJb : ∀ i W, J i W → Fb W p q n hs sd)
    (hJ : ∀ i W, J i W → i < hs.toNat → Calls Try.prog 59 #[.int .i64 (pl (sumN sd k) (64 * n) i : Nat), .pointer (some ⟨ca, 0, none⟩), .pointer (some ⟨cb, 0, none⟩)] W fun e W' => (∃ v, e = .returned v) ∧ J (i + 1) W')
    (W : World) (hJW : ∀ w', Below W.heap.size W w' → J 0 w') :
    Calls Try.prog 55 #[.pointer (some ⟨p, 0, none⟩), .string k, .func (.func 59) #[] #[.pointer (some ⟨ca, 0, none⟩), .pointer (some ⟨cb, 0, none⟩)]] W fun e W' => (∃ v, e = .returned v) ∧ J hs.toNat W' := by
  have HB := Lib.hid (fun w' h => hJb 0 w' (hJW w' h))
  have HS := Lib.hid (sumR sd ok.s k hk)
  have hl := sumN_lt sd k
  have h1 := ok.h1
  have h2 := ok.h2
  have n1 := ok.n1
  have n2 := ok.n2
  have hB0 := HB.out W (Below.refl _ _)
  have k1 := hB0.c1
  have k2 := hB0.c2
  clear hB0
  go_enter Try.func55, Try.ntmps55
  go_wp2_with fail
  refine (HS.out _).mono ?_
  rintro e w1 ⟨rfl, b1⟩
  generalize sumN sd k = x at *
  have e1 := low_bits x hl
  have e2 : bits .or .u64 ((x : Int) / 4294967296) 1 = ((pb x : Nat) : Int) := by have := high_bits x hl; rwa [Int.natCast_ediv] at this
  have hpb := pb_le hl
  have m1 := (HB.out _ b1).c0
  have HJ0 := Lib.hid (hJW _ b1)
  have HPL := Lib.hid (show ∀ j : Nat, pl x (64 * n) j = (x % 4294967296 + j * pb x) % (64 * n) from fun _ => rfl)
  generalize pb x = y at *
  go_wp2_with fail
  go_loopw [9, 25] (fun _ i wr => ∃ j : Nat, j ≤ hs.toNat ∧ i = .int .i64 j ∧ J j wr) (fun _ i _ => hs.toNat - (intOf i).toNat)
  case atStart => exact ⟨0, by omega, rfl, HJ0.out⟩
  case round =>
    obtain ⟨j, hj, rfl, hJr⟩ := hrel
    have hB := hJb _ _ hJr
    obtain ⟨cp, hcp, c3⟩ := hB.c3
    clear hB
    by_cases hlt : j < hs.toNat
    · have hlt2 : (j : Int) < hs := by omega
      have hjy : (j : Int) * (y : Int) ≤ 34359738368 := by
        have h0 : j * y ≤ 8 * 4294967296 := Nat.mul_le_mul (by omega) hpb
        have : ((j * y : Nat) : Int) ≤ 34359738368 := by omega
        rwa [Int.natCast_mul] at this
      have hjy0 : 0 ≤ (j : Int) * (y : Int) := Int.mul_nonneg (by omega) (by omega)
      have f1 : IntKind.u64.wrap ((j : Int) * (y : Int)) = (j : Int) * (y : Int) := IntWalk.u64_in _ (by omega)
      have f4 : ((64 : Int) * (n : Int) == 0) = false := by simp; omega
      have hplj : ((x : Int) % 4294967296 + (j : Int) * (y : Int)) % (64 * (n : Int)) = ((pl x (64 * n) j : Nat) : Int) := by
        rw [HPL.out]; simp
      have hpm : ((pl x (64 * n) j : Nat) : Int) < 64 * (n : Int) := by
        have : pl x (64 * n) j < 64 * n := pl_lt (by omega)
        omega
      have HC := Lib.hid (hJ j _ hJr hlt)
      have hz : (64 : Nat) * n ≤ 1048576 := by omega
      generalize pl x (64 * n) j = z at *
      have H6 := Lib.hid (show wrap64 (((x : Int) % 4294967296 + (j : Int) * (y : Int)) % (64 * (n : Int))) = (z : Int) by rw [hplj]; exact IntWalk.wrap64_in _ (by omega))
      clear hplj hz hpm
      go_wp2_with fail
      rw [H6.out]
      refine HC.out.mono ?_
      rintro e w3 ⟨⟨v, rfl⟩, hJ3⟩
      go_wp2_with fail
      go_roundw
      case rel => exact ⟨j + 1, by omega, by go_num, hJ3⟩
      case measure => simp [intOf] <;> omega
    · have hlt2 : ¬ (j : Int) < hs := by omega
      obtain rfl : j = hs.toNat := by omega
      go_wp2_with fail
      go_end0
      exact ⟨⟨_, rfl⟩, hJr⟩
end Go.Proofs.Ytohldfhelppehaa.Blo
