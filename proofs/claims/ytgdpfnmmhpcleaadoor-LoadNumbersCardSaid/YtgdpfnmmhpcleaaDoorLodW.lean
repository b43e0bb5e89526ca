/-
  Walks over the numbers of package load (layer 38) and of its reference.
-/
import Derived.Test.YtgdpfnmmhpcleaaDoorProg
import Derived.Test.YtgdpfnmmhpcleaaDoorKit
import Derived.Carry
set_option linter.unusedVariables false
set_option linter.unusedSimpArgs false
namespace Go.Proofs.YtgdpfnmmhpcleaaDoor.Lod
open Go.RowKit Kit
/-- the modulus -/
def M : Nat := 2147483647
theorem m_left (x a : Nat) : x % M * a % M = x * a % M := by rw [Nat.mul_mod, Nat.mod_mod, ← Nat.mul_mod]
theorem step_odd (x p k : Nat) : (x * p % M) * (p * p % M) ^ k % M = x * p ^ (2 * k + 1) % M := by
  rw [Nat.mul_mod (x * p % M), ← Nat.pow_mod, Nat.mod_mod, ← Nat.mul_mod, Nat.pow_succ, Nat.pow_mul, Nat.pow_two, Nat.mul_assoc, Nat.mul_comm p, ← Nat.mul_assoc, Nat.mul_assoc]
theorem step_even (x p k : Nat) : x * (p * p % M) ^ k % M = x * p ^ (2 * k) % M := by
  rw [Nat.mul_mod, ← Nat.pow_mod, ← Nat.mul_mod, Nat.pow_mul, Nat.pow_two]
theorem half_odd (a k : Nat) : (a ^ k % M) * (a ^ k % M) % M * a % M = a ^ (2 * k + 1) % M := by
  rw [← Nat.mul_mod, m_left, Nat.pow_succ, ← Nat.pow_add, Nat.two_mul]
theorem half_even (a k : Nat) : (a ^ k % M) * (a ^ k % M) % M = a ^ (2 * k) % M := by
  rw [← Nat.mul_mod, ← Nat.pow_add, Nat.two_mul]
/-- products of two numbers below the modulus -/
theorem prod {a b : Nat} (ha : a < M) (hb : b < M) : (0 : Int) ≤ (a : Int) * b ∧ (a : Int) * b ≤ 18446744073709551615 ∧ ((a : Int) * b).tmod 2147483647 = ((a * b % M : Nat) : Int) := by
  have h : a * b ≤ 2147483647 * 2147483647 := Nat.mul_le_mul (by unfold M at ha; omega) (by unfold M at hb; omega)
  have e : (a : Int) * b = ((a * b : Nat) : Int) := by simp
  rw [e]
  refine ⟨by omega, by omega, ?_⟩
  rw [Int.tmod_eq_emod_of_nonneg (by omega)]
  unfold M
  omega
theorem rpower_any (a : Nat) (ha : a < M) (n : Nat) : n < 18446744073709551616 → ∀ w, Calls Tryd.prog 99 #[.int .u64 (a : Int), .int .u64 (n : Int)] w fun e w' => e = .returned (.int .u64 ((a ^ n % M : Nat) : Int)) ∧ w = w' := by
  induction n using Nat.strongRecOn with
  | _ n ih =>
    intro hn w
    by_cases h0 : n = 0
    · subst h0
      go_enter Tryd.func99, Tryd.ntmps99
      go_wp2_with fail
      go_ret
      exact ⟨rfl, rfl⟩
    · have hi := ih (n / 2) (by omega) (by omega)
      rw [show (((n / 2 : Nat)) : Int) = (n : Int) / 2 from by omega] at hi
      have HI := Lib.hid hi
      have hb : a ^ (n / 2) % M < M := Nat.mod_lt _ (by decide)
      obtain ⟨p0, p1, p2⟩ := prod hb hb
      have hb2 : (a ^ (n / 2) % M) * (a ^ (n / 2) % M) % M < M := Nat.mod_lt _ (by decide)
      obtain ⟨r0, r1, r2⟩ := prod hb2 ha
      have hev := half_even a (n / 2)
      have hod := half_odd a (n / 2)
      generalize (a ^ (n / 2) % M) * (a ^ (n / 2) % M) % M = h2 at *
      generalize a ^ (n / 2) % M = h1 at *
      have w1 := IntWalk.u64_in _ (And.intro p0 p1)
      have w2 := IntWalk.u64_in _ (And.intro r0 r1)
      have ne : ((n : Int) == 0) = false := by simp; omega
      by_cases hp : n % 2 = 1
      · have hq : ((n : Int) % 2 == 1) = true := by simp; omega
        have HR := Lib.hid (show h2 * a % M = a ^ n % M from by rw [hod, show 2 * (n / 2) + 1 = n by omega])
        clear hi ih hev hod
        go_enter Tryd.func99, Tryd.ntmps99
        go_wp2_with fail
        refine (HI.out _).mono ?_
        rintro e w1 ⟨rfl, rfl⟩
        go_wp2_with fail
        go_ret
        exact ⟨ret_int (by first | (rw [← HR.out]; done) | (rw [← HR.out]; simp; done) | (rw [← HR.out]; push_cast; rfl)), rfl⟩
      · have hq : ((n : Int) % 2 == 1) = false := by simp; omega
        have HR := Lib.hid (show h2 = a ^ n % M from by rw [hev, show 2 * (n / 2) = n by omega])
        clear hi ih hev hod
        go_enter Tryd.func99, Tryd.ntmps99
        go_wp2_with fail
        refine (HI.out _).mono ?_
        rintro e w1 ⟨rfl, rfl⟩
        go_wp2_with fail
        go_ret
        exact ⟨ret_int (by first | (rw [← HR.out]; done) | (rw [← HR.out]; simp; done) | (rw [← HR.out]; push_cast; rfl)), rfl⟩
theorem number_out (s i : Int) (h : i < 0 ∨ 1099511627776 < i) (w : World) : Calls Tryd.prog 58 #[.int .u64 s, .int .i64 i] w fun e w' => e = .returned (.int .u64 0) ∧ w = w' := by
  by_cases h0 : i < 0
  · clear h
    go_enter Tryd.func58, Tryd.ntmps58
    go_wp2
    go_ret
    exact ⟨rfl, rfl⟩
  · have h1 : 1099511627776 < i := by omega
    clear h
    go_enter Tryd.func58, Tryd.ntmps58
    go_wp2
    go_ret
    exact ⟨rfl, rfl⟩
theorem rnumber_out (s i : Int) (h : i < 0 ∨ 1099511627776 < i) (w : World) : Calls Tryd.prog 59 #[.int .u64 s, .int .i64 i] w fun e w' => e = .returned (.int .u64 0) ∧ w = w' := by
  by_cases h0 : i < 0
  · clear h
    go_enter Tryd.func59, Tryd.ntmps59
    go_wp2_with fail
    go_ret
    exact ⟨rfl, rfl⟩
  · have h1 : 1099511627776 < i := by omega
    clear h
    go_enter Tryd.func59, Tryd.ntmps59
    go_wp2_with fail
    go_ret
    exact ⟨rfl, rfl⟩
/-- the number of a seed -/
def num (s i : Nat) : Nat := (s % 2147483646 + 1) * 48271 ^ (i + 1) % M
set_option maxRecDepth 100000 in
theorem rnumber_any (s i : Nat) (hi : i ≤ 1099511627776) (hs : s < 18446744073709551616) (w : World) : Calls Tryd.prog 59 #[.int .u64 (s : Int), .int .i64 (i : Int)] w fun e w' => e = .returned (.int .u64 ((num s i : Nat) : Int)) ∧ w = w' := by
  have hp := rpower_any 48271 (by decide) (i + 1) (by omega)
  rw [show (((i + 1 : Nat)) : Int) = (i : Int) + 1 from by omega, show ((48271 : Nat) : Int) = 48271 from rfl] at hp
  have HP := Lib.hid hp
  have hb : 48271 ^ (i + 1) % M < M := Nat.mod_lt _ (by decide)
  have hx : s % 2147483646 + 1 < M := by unfold M; omega
  obtain ⟨p0, p1, p2⟩ := prod hx hb
  have HR := Lib.hid (show (s % 2147483646 + 1) * (48271 ^ (i + 1) % M) % M = num s i from by unfold num; rw [Nat.mul_mod, Nat.mod_mod, ← Nat.mul_mod])
  generalize 48271 ^ (i + 1) % M = h1 at *
  have e1 : ((s % 2147483646 + 1 : Nat) : Int) = (s : Int) % 2147483646 + 1 := by omega
  rw [e1] at p0 p1 p2
  have w1 := IntWalk.u64_in _ (And.intro p0 p1)
  clear hp e1
  go_enter Tryd.func59, Tryd.ntmps59
  go_wp2_with fail
  refine (HP.out _).mono ?_
  rintro e w1 ⟨rfl, rfl⟩
  go_wp2_with fail
  go_ret
  exact ⟨ret_int (by first | (rw [← HR.out]; done) | (rw [← HR.out]; simp; done) | (rw [← HR.out]; push_cast; rfl)), rfl⟩
end Go.Proofs.YtgdpfnmmhpcleaaDoor.Lod
