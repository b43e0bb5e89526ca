/-
  Walks over the reference of layer 34: new filters.
-/
import Derived.Test.YtohldfhelppehaaBloL
set_option linter.unusedVariables false
set_option linter.unusedSimpArgs false
namespace Go.Proofs.Ytohldfhelppehaa.Blo
open Go.RowKit Kit Hash
/-- whether b is 64 times one of the first j powers of two -/
def pwB (b : Int) : Nat → Bool
  | 0 => false
  | j + 1 => pwB b j || ((64 * 2 ^ j : Nat) : Int) == b
theorem pwB_ok {b : Int} : ∀ {j : Nat}, pwB b j = true → ∃ i, i < j ∧ b = ((64 * 2 ^ i : Nat) : Int)
  | 0, h => by simp [pwB] at h
  | j + 1, h => by
    rw [pwB, Bool.or_eq_true] at h
    rcases h with h | h
    · obtain ⟨i, h1, h2⟩ := pwB_ok h; exact ⟨i, by omega, h2⟩
    · exact ⟨j, by omega, (eq_of_beq h).symm⟩
theorem pwB_of {b : Int} {i : Nat} (hb : b = ((64 * 2 ^ i : Nat) : Int)) : ∀ {j : Nat}, i < j → pwB b j = true
  | 0, h => by omega
  | j + 1, h => by
    rw [pwB]
    by_cases h1 : i = j
    · subst h1; simp [hb]
    · rw [pwB_of hb (j := j) (by omega)]; rfl
/-- what is allowed -/
def alw (b hs : Int) : Bool := pwB b 15 && decide (1 ≤ hs) && decide (hs ≤ 8)
theorem Ok.of {b hs sd : Int} (h : alw b hs = true) (hw : Word sd) : ∃ n : Nat, b = 64 * n ∧ Ok n hs sd := by
  unfold alw at h
  simp only [Bool.and_eq_true, decide_eq_true_eq] at h
  obtain ⟨⟨h1, h2⟩, h3⟩ := h
  obtain ⟨i, hi, hb⟩ := pwB_ok h1
  have hp : 2 ^ i ≤ 2 ^ 14 := Nat.pow_le_pow_right (by decide) (by omega)
  have hp1 : 1 ≤ 2 ^ i := Nat.one_le_two_pow
  exact ⟨2 ^ i, by rw [hb]; simp, ⟨hp1, hp, ⟨i, by omega, rfl⟩, h2, h3, hw⟩⟩
set_option maxRecDepth 100000 in
set_option maxHeartbeats 1000000 in
theorem rnew_any {W : World} {hs sd b : Int} (hb0 : -9223372036854775808 ≤ b) (hb1 : b < 9223372036854775808) (hh0 : -9223372036854775808 ≤ hs) (hh1 : hs < 9223372036854775808) :
    Calls Try.prog 12 #[.int .i64 b, .int .i64 hs, .int .u64 sd] W fun e w' => Below W.heap.size W w' ∧ ((alw b hs = true ∧ ∃ r, e = .returned (.tuple #[rf hs sd r b.toNat b.toNat, .int .i64 0]) ∧ Rr w' r b.toNat (fun _ => false) ∧ W.heap.size ≤ r) ∨ (alw b hs = false ∧ e = .returned (.tuple #[.agg #[.int .i64 0, .int .u64 0, .slice none 0 0], .int .i64 2]))) := by
  obtain ⟨i0, hi, hzz⟩ := Option.map_eq_some_iff.1 info_bool
  simp only [Prod.mk.injEq] at hzz
  obtain ⟨hz0, hz1, hz2⟩ := hzz
  have HMK := Lib.hid (fun (h : 0 ≤ b) (h1 : b ≤ 1048576) w => show (Instr.makeSlice 23 (.int .i64 b) (.int .i64 b)).run Try.prog w = .ok (.slice (some ⟨w.heap.size, 0, none⟩) b.toNat b.toNat) (w.alloc (.cells (madeCells (Value.bool false).cells (b.toNat * 1)) 4)) from by
    have := run_make (P := Try.prog) w 23 4 i0 (.bool false) (by kernel_rfl) hi hz0 .i64 .i64 b b h (Int.le_refl _) (by rw [hz2]; omega) (by omega)
    rwa [hz1] at this)
  clear hz0 hz1 hz2 hi
  go_enter Try.func12, Try.ntmps12
  go_wp2_with fail
  go_loopw [8, 9] (fun u i wr => ∃ (j N : Nat), j ≤ 15 ∧ N = 64 * 2 ^ j ∧ i = .int .i64 (N : Int) ∧ u = .bool (pwB b j) ∧ wr = W.alloc (.cells #[.int .i64 0, .int .u64 0, .slice none 0 0] 25)) (fun _ i _ => (4194304 - intOf i).toNat)
  case atStart => exact ⟨0, 64, by omega, rfl, rfl, rfl, rfl⟩
  case round =>
    obtain ⟨j, N, hj, hN, rfl, rfl, rfl⟩ := hrel
    have HN := Lib.hid hN
    clear hN
    by_cases hlt : j < 15
    · have hN1 : 1 ≤ N ∧ N ≤ 1048576 := by
        have hp : 2 ^ j ≤ 2 ^ 14 := Nat.pow_le_pow_right (by decide) (by omega)
        have hp1 : 1 ≤ 2 ^ j := Nat.one_le_two_pow
        have := HN.out; omega
      have hw : wrap64 ((N : Int) * 2) = (N : Int) * 2 := IntWalk.wrap64_in _ (by omega)
      have HP := Lib.hid (show pwB b (j + 1) = (pwB b j || ((N : Nat) : Int) == b) by rw [HN.out]; rfl)
      have HN2 := Lib.hid (show N * 2 = 64 * 2 ^ (j + 1) by rw [HN.out, Nat.pow_succ]; omega)
      cases hp : pwB b j
      · go_wp2_with fail
        go_roundw
        case rel => exact ⟨j + 1, N * 2, by omega, HN2.out, by simp, by rw [HP.out, hp]; simp, trivial⟩
        case measure => simp [intOf] <;> omega
      · go_wp2_with fail
        go_roundw
        case rel => exact ⟨j + 1, N * 2, by omega, HN2.out, by simp, by rw [HP.out, hp]; rfl, trivial⟩
        case measure => simp [intOf] <;> omega
    · obtain rfl : j = 15 := by omega
      have hN1 : N = 2097152 := by have := HN.out; omega
      subst hN1
      cases hp : pwB b 15
      · have ha : alw b hs = false := by unfold alw; rw [hp]; rfl
        have HA := Lib.hid ha
        clear ha HN
        go_wp2_with fail
        refine bodyPost_ret (v := .tuple #[.agg #[.int .i64 0, .int .u64 0, .slice none 0 0], .int .i64 2]) (by simp [results, Try.results12, go_sem]) rfl ⟨by go_grown, .inr ⟨HA.out, rfl⟩⟩
      · have HA := Lib.hid (show alw b hs = (decide (1 ≤ hs) && decide (hs ≤ 8)) by unfold alw; rw [hp]; rfl)
        obtain ⟨i, hi, hbi⟩ := pwB_ok hp
        have hpi : 2 ^ i ≤ 2 ^ 14 := Nat.pow_le_pow_right (by decide) (by omega)
        have hq0 : 0 ≤ b := by omega
        have hq1 : b ≤ 1048576 := by omega
        have hmk := HMK.out hq0 hq1
        clear hbi hpi HN hb0 hb1
        by_cases h1 : hs < 1
        · go_wp2_with fail
          refine bodyPost_ret (v := .tuple #[.agg #[.int .i64 0, .int .u64 0, .slice none 0 0], .int .i64 2]) (by simp [results, Try.results12, go_sem]) rfl ⟨by go_grown, .inr ⟨by rw [HA.out]; simp; omega, rfl⟩⟩
        · by_cases h2 : 8 < hs
          · go_wp2_with fail
            refine bodyPost_ret (v := .tuple #[.agg #[.int .i64 0, .int .u64 0, .slice none 0 0], .int .i64 2]) (by simp [results, Try.results12, go_sem]) rfl ⟨by go_grown, .inr ⟨by rw [HA.out]; simp; omega, rfl⟩⟩
          · go_wp2_with fail
            refine bodyPost_ret (v := .tuple #[rf hs sd (W.heap.size + 1) b.toNat b.toNat, .int .i64 0]) (by simp [results, Try.results12, go_sem]) rfl ⟨?_, .inl ⟨by rw [HA.out]; simp; omega, W.heap.size + 1, rfl, ?_, by omega⟩⟩
            · go_grown
            · have := Row.made (W.alloc (rfO hs sd (W.heap.size + 1) b.toNat b.toNat)) (.bool false) rfl b.toNat 4
              rw [World.size_alloc] at this
              exact this
end Go.Proofs.Ytohldfhelppehaa.Blo
