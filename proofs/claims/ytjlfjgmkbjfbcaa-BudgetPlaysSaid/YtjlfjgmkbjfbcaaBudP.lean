/-
  Walks over the laws of layer 17 (budget): BudgetParts, BudgetNew.
-/
import Derived.Test.YtjlfjgmkbjfbcaaBudL
namespace Go.Proofs.Ytjlfjgmkbjfbcaa.Bud
open Go.RowKit Kit

theorem lallowed_any (a b : Int) (w : World) :
    Calls Try.prog 10 #[.int .i64 a, .int .i64 b] w fun e w' => e = .returned (.bool (okLim a b)) ∧ w = w' := by
  unfold okLim
  by_cases h0 : 1 ≤ a
  · by_cases h1 : a ≤ 1048576
    · by_cases h2 : 1 ≤ b
      · by_cases h3 : b ≤ 1099511627776
        all_goals
          go_enter Try.func10, Try.ntmps10
          go_wp2
          go_ret
          exact ⟨ret_bool (by simp; omega), rfl⟩
      · go_enter Try.func10, Try.ntmps10
        go_wp2
        go_ret
        exact ⟨ret_bool (by simp; omega), rfl⟩
    · go_enter Try.func10, Try.ntmps10
      go_wp2
      go_ret
      exact ⟨ret_bool (by simp; omega), rfl⟩
  · go_enter Try.func10, Try.ntmps10
    go_wp2
    go_ret
    exact ⟨ret_bool (by simp; omega), rfl⟩
theorem part_eq (mb h : Int) : mb * h / 100 = mb / 100 * h + mb % 100 * h / 100 := by
  have e : mb * h = 100 * (mb / 100 * h) + mb % 100 * h := by
    rw [← Int.mul_assoc, ← Int.add_mul, Int.mul_ediv_add_emod]
  rw [e]
  generalize mb / 100 * h = x
  generalize mb % 100 * h = y
  omega
theorem part_sum (mb h : Int) : mb * h / 100 + mb * (100 - h) / 100 = mb ∨ mb * h / 100 + mb * (100 - h) / 100 = mb - 1 := by
  have e : mb * (100 - h) = 100 * mb - mb * h := by rw [Int.mul_sub, Int.mul_comm mb 100]
  rw [e]
  generalize mb * h = x
  omega
theorem part_bounds (mb h : Int) (m0 : 1 ≤ mb) (m1 : mb ≤ 1099511627776) (h0 : 0 ≤ h) (h1 : h ≤ 100) : 0 ≤ mb / 100 * h ∧ mb / 100 * h ≤ 10995116277 * 100 ∧ 0 ≤ mb % 100 * h ∧ mb % 100 * h ≤ 100 * 100 :=
  ⟨Int.mul_nonneg (by omega) h0, Int.mul_le_mul (by omega) h1 h0 (by omega), Int.mul_nonneg (by omega) h0, Int.mul_le_mul (by omega) h1 h0 (by omega)⟩
theorem ok_new (a b : Int) (h : okLim a b = true) : (S.mk a b 0 0 0 0).ok := by
  unfold okLim at h
  simp at h
  unfold S.ok
  simp only
  omega
set_option maxHeartbeats 1000000 in
theorem parts_any (mb h : Int) (w : World) :
    Calls Try.prog 5 #[.int .i64 mb, .int .i64 h] w fun e w' => e = .returned (.bool true) ∧ Below w.heap.size w w' := by
  cases hl : okLim 1 mb
  · go_enter Try.func5, Try.ntmps5
    go_wp2_with fail
    refine (lallowed_any 1 mb _).mono ?_
    rintro e w1 ⟨rfl, rfl⟩
    rw [hl]
    go_wp2_with fail
    refine (known_any _).mono ?_
    rintro e w1 ⟨rfl, b1⟩
    go_wp2_with fail
    go_ret
    exact ⟨rfl, b1⟩
  · have hok := ok_new 1 mb hl
    have m0 : 1 ≤ mb := hok.2.2.1
    have m1 : mb ≤ 1099511627776 := hok.2.2.2.1
    have HL := Lib.hid hl
    have HN := Lib.hid (New_ok 1 mb hl)
    clear hl
    by_cases hh : 0 ≤ h ∧ h ≤ 100
    · obtain ⟨h0, h1⟩ := hh
      have HP := Lib.hid (fun W hb => Part_ok w.heap.size (S.mk 1 mb 0 0 0 0) hok h h0 h1 W hb)
      have HP2 := Lib.hid (fun W hb => Part_ok w.heap.size (S.mk 1 mb 0 0 0 0) hok (100 - h) (by omega) (by omega) W hb)
      obtain ⟨p0, p1, p2, p3⟩ := part_bounds mb h m0 m1 h0 h1
      have hS := part_sum mb h
      have hE := part_eq mb h
      simp only at HP HP2
      have q4 : mb * h ≤ mb * 100 := Int.mul_le_mul_of_nonneg_left h1 (by omega)
      have q0 : 0 ≤ mb * h / 100 := by omega
      have q1 : mb * h / 100 ≤ 1099511627800 := by omega
      have q2 : 0 ≤ mb * (100 - h) / 100 + 1 := by omega
      have q3 : mb * (100 - h) / 100 ≤ 1099511627800 := by omega
      clear q4
      generalize mb * h / 100 = n at *
      generalize mb * (100 - h) / 100 = m at *
      have hE2 := hE.symm
      clear hE
      rcases hS with hS | hS
      all_goals
        go_enter Try.func5, Try.ntmps5
        go_wp2_with fail
        refine (lallowed_any 1 mb _).mono ?_
        rintro e w1 ⟨rfl, rfl⟩
        rw [HL.out]
        go_wp2_with fail
        refine (HN.out _).mono ?_
        rintro e w1 ⟨rfl, hw1⟩
        have hb1 : Bud w1 w.heap.size ⟨1, mb, 0, 0, 0, 0⟩ := by rw [hw1]; exact (MapKept.heap_alloc w _).1
        have hB1 : Below w.heap.size w w1 := by rw [hw1]; go_grown
        clear hw1
        go_wp2_with fail
        refine (HP.out _ hb1).mono ?_
        rintro e w2 ⟨rfl, rfl⟩
        go_wp2_with fail
        refine (HP2.out _ hb1).mono ?_
        rintro e w2 ⟨rfl, rfl⟩
        go_wp2_with fail
        refine (known_any _).mono ?_
        rintro e w3 ⟨rfl, b3⟩
        go_wp2_with fail
        go_ret
        exact ⟨rfl, tr hB1 b3⟩
    · have HP := Lib.hid (fun W hb => Part_bad w.heap.size (S.mk 1 mb 0 0 0 0) hok h hh W hb)
      by_cases h0 : h < 0
      all_goals
        try (have h1 : 100 < h := by omega)
        clear hh
        go_enter Try.func5, Try.ntmps5
        go_wp2_with fail
        refine (lallowed_any 1 mb _).mono ?_
        rintro e w1 ⟨rfl, rfl⟩
        rw [HL.out]
        go_wp2_with fail
        refine (HN.out _).mono ?_
        rintro e w1 ⟨rfl, hw1⟩
        have hb1 : Bud w1 w.heap.size ⟨1, mb, 0, 0, 0, 0⟩ := by rw [hw1]; exact (MapKept.heap_alloc w _).1
        have hB1 : Below w.heap.size w w1 := by rw [hw1]; go_grown
        clear hw1
        go_wp2_with fail
        refine (HP.out _ hb1).mono ?_
        rintro e w2 ⟨rfl, rfl⟩
        go_wp2_with fail
        refine (known_any _).mono ?_
        rintro e w3 ⟨rfl, b3⟩
        go_wp2_with fail
        go_ret
        exact ⟨rfl, tr hB1 b3⟩
end Go.Proofs.Ytjlfjgmkbjfbcaa.Bud
