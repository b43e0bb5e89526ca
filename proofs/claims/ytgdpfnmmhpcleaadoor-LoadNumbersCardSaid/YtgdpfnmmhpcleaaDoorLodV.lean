/-
  The law of the numbers (layer 38), walked.
-/
import Derived.Test.YtgdpfnmmhpcleaaDoorLodW
set_option linter.unusedVariables false
set_option linter.unusedSimpArgs false
namespace Go.Proofs.YtgdpfnmmhpcleaaDoor.Lod
open Go.RowKit Kit
set_option maxRecDepth 100000 in
theorem number_any (s i : Nat) (hi : i ≤ 1099511627776) (hs : s < 18446744073709551616) (w : World) : Calls Tryd.prog 58 #[.int .u64 (s : Int), .int .i64 (i : Int)] w fun e w' => e = .returned (.int .u64 ((num s i : Nat) : Int)) ∧ w = w' := by
  have hx : s % 2147483646 + 1 < M := by unfold M; omega
  go_enter Tryd.func58, Tryd.ntmps58
  go_wp2_with fail
  go_loop [5, 6, 7] (fun x p n => ∃ (X Q K : Nat), x = .int .u64 (X : Int) ∧ p = .int .u64 (Q : Int) ∧ n = .int .i64 (K : Int) ∧ X < M ∧ Q < M ∧ K ≤ 1099511627777 ∧ X * Q ^ K % M = num s i) (fun _ _ n => (intOf n).toNat)
  case atStart => exact ⟨s % 2147483646 + 1, 48271, i + 1, by simp, rfl, by simp, hx, by decide, by omega, rfl⟩
  case round =>
    obtain ⟨X, Q, K, rfl, rfl, rfl, hX, hQ, hK, hinv⟩ := hrel
    by_cases h0 : K = 0
    · have HR := Lib.hid (show X = num s i from by rw [← hinv, h0, Nat.pow_zero, Nat.mul_one, Nat.mod_eq_of_lt hX])
      subst h0
      clear hinv
      go_wp2_with fail
      go_ret
      exact ⟨ret_int (by rw [HR.out]), rfl⟩
    · have hpos : (0 : Int) < K := by omega
      obtain ⟨p0, p1, p2⟩ := prod hX hQ
      obtain ⟨r0, r1, r2⟩ := prod hQ hQ
      have w1 := IntWalk.u64_in _ (And.intro p0 p1)
      have w2 := IntWalk.u64_in _ (And.intro r0 r1)
      have hb1 : X * Q % M < M := Nat.mod_lt _ (by decide)
      have hb2 : Q * Q % M < M := Nat.mod_lt _ (by decide)
      have hk2 : ((K / 2 : Nat) : Int) = (K : Int) / 2 := by omega
      by_cases hp : K % 2 = 1
      · have hq : ((K : Int) % 2 == 1) = true := by simp; omega
        have HR := Lib.hid (show (X * Q % M) * (Q * Q % M) ^ (K / 2) % M = num s i from by rw [step_odd, show 2 * (K / 2) + 1 = K by omega, hinv])
        have HI := Lib.hid hinv
        clear hinv
        generalize X * Q % M = X2 at *
        generalize Q * Q % M = Q2 at *
        go_wp2_with fail
        go_round
        case rel => exact ⟨X2, Q2, K / 2, by first | rfl | simp, by first | rfl | simp, by rw [hk2], hb1, hb2, by omega, HR.out⟩
        case measure => simp [intOf]; omega
      · have hq : ((K : Int) % 2 == 1) = false := by simp; omega
        have HR := Lib.hid (show X * (Q * Q % M) ^ (K / 2) % M = num s i from by rw [step_even, show 2 * (K / 2) = K by omega, hinv])
        have HI := Lib.hid hinv
        clear hinv
        generalize Q * Q % M = Q2 at *
        go_wp2_with fail
        go_round
        case rel => exact ⟨X, Q2, K / 2, rfl, by first | rfl | simp, by rw [hk2], hX, hb2, by omega, HR.out⟩
        case measure => simp [intOf]; omega
def Known (w : World) : Prop := ∀ w1, Below w.heap.size w w1 → Calls Tryd.prog 60 #[] w1 fun e w' => e = .returned (.bool true) ∧ Below w1.heap.size w1 w'
set_option maxRecDepth 100000 in
theorem law_with (s i v : Int) (hA : ∀ w, Calls Tryd.prog 58 #[.int .u64 s, .int .i64 i] w fun e w' => e = .returned (.int .u64 v) ∧ w = w') (hB : ∀ w, Calls Tryd.prog 59 #[.int .u64 s, .int .i64 i] w fun e w' => e = .returned (.int .u64 v) ∧ w = w') (w : World) (hk : Known w) :
    Calls Tryd.prog 12 #[.int .u64 s, .int .i64 i] w fun e w' => e = .returned (.bool true) ∧ Below w.heap.size w w' := by
  have HA := Lib.hid hA
  have HB := Lib.hid hB
  have HK := Lib.hid hk
  clear hA hB hk
  go_enter Tryd.func12, Tryd.ntmps12
  go_wp2_with fail
  refine (HA.out _).mono ?_
  rintro e w1 ⟨rfl, rfl⟩
  go_wp2_with fail
  refine (HB.out _).mono ?_
  rintro e w1 ⟨rfl, rfl⟩
  go_wp2_with fail
  refine (HK.out _ (Below.refl _ _)).mono ?_
  rintro e w2 ⟨rfl, q⟩
  go_wp2_with fail
  go_ret
  exact ⟨rfl, q⟩
theorem law_any (s i : Int) (s0 : 0 ≤ s) (s1 : s < 18446744073709551616) (w : World) (hk : Known w) :
    Calls Tryd.prog 12 #[.int .u64 s, .int .i64 i] w fun e w' => e = .returned (.bool true) ∧ Below w.heap.size w w' := by
  by_cases h : i < 0 ∨ 1099511627776 < i
  · exact law_with s i 0 (number_out s i h) (rnumber_out s i h) w hk
  · obtain ⟨S, rfl⟩ := Int.eq_ofNat_of_zero_le s0
    obtain ⟨I, rfl⟩ := Int.eq_ofNat_of_zero_le (show 0 ≤ i by omega)
    exact law_with _ _ _ (number_any S I (by omega) (by omega)) (rnumber_any S I (by omega) (by omega)) w hk
end Go.Proofs.YtgdpfnmmhpcleaaDoor.Lod
