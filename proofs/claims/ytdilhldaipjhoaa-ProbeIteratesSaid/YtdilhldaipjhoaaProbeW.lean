/-
  Walks over package probe (layer 6): elements of a sequence, by program and by reference.
-/
import Derived.Test.YtdilhldaipjhoaaGrowW
import Derived.Laws.Bits64
namespace Go.Proofs.Ytdilhldaipjhoaa.Probe
open Go.RowKit Kit GrowM Grow

/-- the element with an index -/
def atI (p g i : Int) : Int := (p + i * (i + 1) / 2) % g
theorem dvd64 (g : Int) (hg : pow2 g = true) : g ∣ 18446744073709551616 := by
  obtain ⟨k, hk, rfl⟩ := (pow2_iff g).1 hg
  exact ⟨2 ^ (64 - k), by rw [← Int.pow_add, show k + (64 - k) = 64 by omega]; rfl⟩
theorem wrap_mod (g : Int) (hg : pow2 g = true) (x : Int) : x % 18446744073709551616 % g = x % g := Int.emod_emod_of_dvd _ (dvd64 g hg)
theorem tri_bound (i : Int) (h0 : 0 ≤ i) (h1 : i < 1048576) : 0 ≤ i * (i + 1) ∧ i * (i + 1) < 1099511627776 ∧ 0 ≤ i * (i + 1) / 2 ∧ i * (i + 1) / 2 < 549755813888 := by
  have a : 0 ≤ i * (i + 1) := Int.mul_nonneg h0 (by omega)
  have b : i * (i + 1) ≤ 1048575 * 1048576 := Int.mul_le_mul (by omega) (by omega) (by omega) (by omega)
  omega

theorem elem_val (g : Int) (hg : pow2 g = true) (x : Int) : wrap64 ((IntKind.u64.wrap x).tmod g) = x % g := by
  obtain ⟨a1, a2⟩ := pow2_range g hg
  rw [IntKind.wrap_u64, Int.tmod_eq_emod_of_nonneg (by omega), wrap_mod g hg]
  have h1 := Int.emod_nonneg x (by omega : g ≠ 0)
  have h2 := Int.emod_lt_of_pos x (by omega : 0 < g)
  unfold wrap64; omega
theorem inside_any (n g : Int) (w : World) :
    Calls Try.prog 40 #[.int .i64 n, .int .i64 g] w fun e w' => e = .returned (.bool (decide (0 ≤ n ∧ n < g))) ∧ w = w' := by
  by_cases h0 : 0 ≤ n
  · by_cases h1 : n < g
    · go_enter Try.func40, Try.ntmps40
      go_wp2
      go_ret
      exact ⟨ret_bool (by simp; omega), rfl⟩
    · go_enter Try.func40, Try.ntmps40
      go_wp2
      go_ret
      exact ⟨ret_bool (by simp; omega), rfl⟩
  · go_enter Try.func40, Try.ntmps40
    go_wp2
    go_ret
    exact ⟨ret_bool (by simp; omega), rfl⟩
theorem element_any (p g i : Int) (g0 : 1 ≤ g) (g1 : g ≤ 1048576) (i0 : 0 ≤ i) (i1 : i < 1048576) (hg : pow2 g = true) (w : World) :
    Calls Try.prog 41 #[.int .u64 p, .int .i64 g, .int .i64 i] w fun e w' => e = .returned (.int .i64 (atI p g i)) ∧ w = w' := by
  obtain ⟨b0, b1, b2, b3⟩ := tri_bound i i0 i1
  have HW := Lib.hid (elem_val g hg)
  clear hg
  go_enter Try.func41, Try.ntmps41
  go_wp2
  go_ret
  exact ⟨ret_int (HW.out _), rfl⟩
theorem atI_range (p g i : Int) (hg : 1 ≤ g) : 0 ≤ atI p g i ∧ atI p g i < g := ⟨Int.emod_nonneg _ (by omega), Int.emod_lt_of_pos _ (by omega)⟩
theorem At_groups (p g i : Int) (hg : pow2 g = false) (w : World) :
    Calls Try.prog 23 #[.int .u64 p, .int .i64 g, .int .i64 i] w fun e w' => e = .returned (.tuple #[.int .i64 0, .int .i64 2]) ∧ w = w' := by
  go_enter Try.func23, Try.ntmps23
  go_wp2_with fail
  refine (valid_any g _).mono ?_
  rintro e w1 ⟨rfl, rfl⟩
  rw [hg]
  go_wp2_with fail
  go_ret2
  exact ⟨rfl, rfl⟩
theorem At_index (p g i : Int) (hg : pow2 g = true) (hi : ¬ (0 ≤ i ∧ i < g)) (w : World) :
    Calls Try.prog 23 #[.int .u64 p, .int .i64 g, .int .i64 i] w fun e w' => e = .returned (.tuple #[.int .i64 0, .int .i64 3]) ∧ w = w' := by
  have HI := Lib.hid (decide_eq_false hi)
  clear hi
  go_enter Try.func23, Try.ntmps23
  go_wp2_with fail
  refine (valid_any g _).mono ?_
  rintro e w1 ⟨rfl, rfl⟩
  rw [hg]
  go_wp2_with fail
  refine (inside_any i g _).mono ?_
  rintro e w1 ⟨rfl, rfl⟩
  rw [HI.out]
  go_wp2_with fail
  go_ret2
  exact ⟨rfl, rfl⟩
theorem At_ok (p g i : Int) (hg : pow2 g = true) (i0 : 0 ≤ i) (i1 : i < g) (w : World) :
    Calls Try.prog 23 #[.int .u64 p, .int .i64 g, .int .i64 i] w fun e w' => e = .returned (.tuple #[.int .i64 (atI p g i), .int .i64 0]) ∧ w = w' := by
  obtain ⟨a1, a2⟩ := pow2_range g hg
  have HI := Lib.hid (decide_eq_true (And.intro i0 i1))
  have HE := Lib.hid (element_any p g i a1 a2 i0 (by omega) hg)
  have HG := Lib.hid hg
  clear hg
  go_enter Try.func23, Try.ntmps23
  go_wp2_with fail
  refine (valid_any g _).mono ?_
  rintro e w1 ⟨rfl, rfl⟩
  rw [HG.out]
  go_wp2_with fail
  refine (inside_any i g _).mono ?_
  rintro e w1 ⟨rfl, rfl⟩
  rw [HI.out]
  go_wp2_with fail
  refine (HE.out _).mono ?_
  rintro e w1 ⟨rfl, rfl⟩
  go_wp2_with fail
  go_ret2
  exact ⟨rfl, rfl⟩
theorem rAt_groups (p g i : Int) (hg : pow2 g = false) (w : World) :
    Calls Try.prog 13 #[.int .u64 p, .int .i64 g, .int .i64 i] w fun e w' => e = .returned (.tuple #[.int .i64 0, .int .i64 2]) ∧ w = w' := by
  go_enter Try.func13, Try.ntmps13
  go_wp2_with fail
  refine (rvalid_any g _).mono ?_
  rintro e w1 ⟨rfl, rfl⟩
  rw [hg]
  go_wp2_with fail
  go_ret2
  exact ⟨rfl, rfl⟩
theorem rAt_index (p g i : Int) (hg : pow2 g = true) (hi : ¬ (0 ≤ i ∧ i < g)) (w : World) :
    Calls Try.prog 13 #[.int .u64 p, .int .i64 g, .int .i64 i] w fun e w' => e = .returned (.tuple #[.int .i64 0, .int .i64 3]) ∧ w = w' := by
  by_cases h0 : i < 0
  · go_enter Try.func13, Try.ntmps13
    go_wp2_with fail
    refine (rvalid_any g _).mono ?_
    rintro e w1 ⟨rfl, rfl⟩
    rw [hg]
    go_wp2_with fail
    go_ret2
    exact ⟨rfl, rfl⟩
  · have h1 : g ≤ i := by omega
    go_enter Try.func13, Try.ntmps13
    go_wp2_with fail
    refine (rvalid_any g _).mono ?_
    rintro e w1 ⟨rfl, rfl⟩
    rw [hg]
    go_wp2_with fail
    go_ret2
    exact ⟨rfl, rfl⟩
theorem rAt_ok (p g i : Int) (hg : pow2 g = true) (p0 : 0 ≤ p) (p1 : p ≤ 18446744073709551615) (i0 : 0 ≤ i) (i1 : i < g) (w : World) :
    Calls Try.prog 13 #[.int .u64 p, .int .i64 g, .int .i64 i] w fun e w' => e = .returned (.tuple #[.int .i64 (atI p g i), .int .i64 0]) ∧ Below w.heap.size w w' := by
  obtain ⟨a1, a2⟩ := pow2_range g hg
  obtain ⟨b0, b1, b2, b3⟩ := tri_bound i i0 (by omega)
  have HG := Lib.hid hg
  have HV := Lib.hid (elem_val g hg)
  clear hg
  go_enter Try.func13, Try.ntmps13
  go_wp2_with fail
  refine (rvalid_any g _).mono ?_
  rintro e w1 ⟨rfl, rfl⟩
  rw [HG.out]
  go_wp2_with fail
  go_quiet (fail)
  go_wp2_with fail
  go_ret2
  refine ⟨?_, below_drewN (Below.refl _ _) _⟩
  rw [HV.out, ← Int.add_emod]
  rfl
/-- both Ats give one group and one error -/
theorem at_both (p g i : Int) (p0 : 0 ≤ p) (p1 : p ≤ 18446744073709551615) : ∃ n c : Int,
    (∀ w, Calls Try.prog 23 #[.int .u64 p, .int .i64 g, .int .i64 i] w fun e w' => e = .returned (.tuple #[.int .i64 n, .int .i64 c]) ∧ w = w') ∧
    (∀ w, Calls Try.prog 13 #[.int .u64 p, .int .i64 g, .int .i64 i] w fun e w' => e = .returned (.tuple #[.int .i64 n, .int .i64 c]) ∧ Below w.heap.size w w') ∧
    0 ≤ c ∧ c ≤ 3 := by
  cases hg : pow2 g
  · exact ⟨0, 2, fun w => At_groups p g i hg w, fun w => (rAt_groups p g i hg w).mono (by rintro e w' ⟨rfl, rfl⟩; exact ⟨rfl, Below.refl _ _⟩), by decide, by decide⟩
  · by_cases hi : 0 ≤ i ∧ i < g
    · exact ⟨_, 0, fun w => At_ok p g i hg hi.1 hi.2 w, fun w => rAt_ok p g i hg p0 p1 hi.1 hi.2 w, by decide, by decide⟩
    · exact ⟨0, 3, fun w => At_index p g i hg hi w, fun w => (rAt_index p g i hg hi w).mono (by rintro e w' ⟨rfl, rfl⟩; exact ⟨rfl, Below.refl _ _⟩), by decide, by decide⟩
/-- what the law's at says when At gives n and c -/
theorem at_true (p g i n c : Int) (H : ∀ w, Calls Try.prog 23 #[.int .u64 p, .int .i64 g, .int .i64 i] w fun e w' => e = .returned (.tuple #[.int .i64 n, .int .i64 c]) ∧ w = w') (w : World) :
    Calls Try.prog 16 #[.int .u64 p, .int .i64 g, .int .i64 i, .int .i64 n, .int .i64 c] w fun e w' => e = .returned (.bool true) ∧ w = w' := by
  have HH := Lib.hid H
  clear H
  go_enter Try.func16, Try.ntmps16
  go_wp2_with fail
  refine (HH.out _).mono ?_
  rintro e w1 ⟨rfl, rfl⟩
  go_wp2_with fail
  go_ret
  exact ⟨ret_bool (by simp), rfl⟩
end Go.Proofs.Ytdilhldaipjhoaa.Probe
