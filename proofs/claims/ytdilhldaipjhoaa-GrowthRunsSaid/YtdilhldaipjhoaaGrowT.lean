/-
  Walks over package growth's reference (layer 8): Insert and Remove; both sides together.
-/
import Derived.Test.YtdilhldaipjhoaaGrowU
namespace Go.Proofs.Ytdilhldaipjhoaa.Grow
open Go.RowKit Kit GrowM

section
variable (g l t : Int) (w : World)

set_option maxHeartbeats 2000000 in
theorem rinsert_groups (hg : pow2 g = false) :
    Calls Try.prog 33 #[.int .i64 g, .int .i64 l, .int .i64 t] w fun e w' => e = .returned (planV 0 false 2) ∧ Below w.heap.size w w' := by
  have HC := Lib.hid (show checkI g l t = 2 from by simp [checkI, hg])
  clear hg
  go_enter Try.func33, Try.ntmps33
  go_wp2_with fail
  refine (check_any g l t _).mono ?_
  rintro e w1 ⟨rfl, rfl⟩
  rw [HC.out]
  go_wp2_with fail
  refine bodyPost_ret (v := planV 0 false 2) (by simp [results, Try.results33, go_sem, planV]) rfl ⟨rfl, ?_⟩
  go_grown

set_option maxHeartbeats 2000000 in
theorem rinsert_lanes (hg : pow2 g = true) (hb : badLanes g l t = true) :
    Calls Try.prog 33 #[.int .i64 g, .int .i64 l, .int .i64 t] w fun e w' => e = .returned (planV 0 false 3) ∧ Below w.heap.size w w' := by
  have HC := Lib.hid (show checkI g l t = 3 from by simp [checkI, hg, hb])
  clear hg hb
  go_enter Try.func33, Try.ntmps33
  go_wp2_with fail
  refine (check_any g l t _).mono ?_
  rintro e w1 ⟨rfl, rfl⟩
  rw [HC.out]
  go_wp2_with fail
  refine bodyPost_ret (v := planV 0 false 3) (by simp [results, Try.results33, go_sem, planV]) rfl ⟨rfl, ?_⟩
  go_grown

set_option maxHeartbeats 2000000 in
theorem rremove_groups (hg : pow2 g = false) :
    Calls Try.prog 35 #[.int .i64 g, .int .i64 l, .int .i64 t] w fun e w' => e = .returned (planV 0 false 2) ∧ Below w.heap.size w w' := by
  have HC := Lib.hid (show checkI g l t = 2 from by simp [checkI, hg])
  clear hg
  go_enter Try.func35, Try.ntmps35
  go_wp2_with fail
  refine (check_any g l t _).mono ?_
  rintro e w1 ⟨rfl, rfl⟩
  rw [HC.out]
  go_wp2_with fail
  refine bodyPost_ret (v := planV 0 false 2) (by simp [results, Try.results35, go_sem, planV]) rfl ⟨rfl, ?_⟩
  go_grown

set_option maxHeartbeats 2000000 in
theorem rremove_lanes (hg : pow2 g = true) (hb : badLanes g l t = true) :
    Calls Try.prog 35 #[.int .i64 g, .int .i64 l, .int .i64 t] w fun e w' => e = .returned (planV 0 false 3) ∧ Below w.heap.size w w' := by
  have HC := Lib.hid (show checkI g l t = 3 from by simp [checkI, hg, hb])
  clear hg hb
  go_enter Try.func35, Try.ntmps35
  go_wp2_with fail
  refine (check_any g l t _).mono ?_
  rintro e w1 ⟨rfl, rfl⟩
  rw [HC.out]
  go_wp2_with fail
  refine bodyPost_ret (v := planV 0 false 3) (by simp [results, Try.results35, go_sem, planV]) rfl ⟨rfl, ?_⟩
  go_grown

set_option maxHeartbeats 2000000 in
theorem rinsert_room (hg : pow2 g = true) (hb : badLanes g l t = false) (hr : l + t < 7 * g) :
    Calls Try.prog 33 #[.int .i64 g, .int .i64 l, .int .i64 t] w fun e w' => e = .returned (planV g false 0) ∧ Below w.heap.size w w' := by
  have HC := Lib.hid (show checkI g l t = 0 from by simp [checkI, hg, hb])
  obtain ⟨hg0, hg1⟩ := pow2_range g hg
  obtain ⟨hl0, ht0, hl8, ht8⟩ := (lanes_good g l t).1 hb
  clear hg hb
  go_enter Try.func33, Try.ntmps33
  go_wp2_with fail
  refine (check_any g l t _).mono ?_
  rintro e w1 ⟨rfl, rfl⟩
  rw [HC.out]
  go_wp2_with fail
  refine bodyPost_ret (v := planV g false 0) (by simp [results, Try.results33, go_sem, planV]) rfl ⟨rfl, ?_⟩
  go_grown

set_option maxHeartbeats 2000000 in
theorem rinsert_half (hg : pow2 g = true) (hb : badLanes g l t = false) (hr : 7 * g ≤ l + t) (hh : 2 * l ≤ 7 * g) :
    Calls Try.prog 33 #[.int .i64 g, .int .i64 l, .int .i64 t] w fun e w' => e = .returned (planV g true 0) ∧ Below w.heap.size w w' := by
  have HC := Lib.hid (show checkI g l t = 0 from by simp [checkI, hg, hb])
  obtain ⟨hg0, hg1⟩ := pow2_range g hg
  obtain ⟨hl0, ht0, hl8, ht8⟩ := (lanes_good g l t).1 hb
  clear hg hb
  go_enter Try.func33, Try.ntmps33
  go_wp2_with fail
  refine (check_any g l t _).mono ?_
  rintro e w1 ⟨rfl, rfl⟩
  rw [HC.out]
  go_wp2_with fail
  refine bodyPost_ret (v := planV g true 0) (by simp [results, Try.results33, go_sem, planV]) rfl ⟨rfl, ?_⟩
  go_grown

set_option maxHeartbeats 2000000 in
theorem rinsert_more (hg : pow2 g = true) (hb : badLanes g l t = false) (hr : 7 * g ≤ l + t) (hh : 7 * g < 2 * l) (hm : pow2 (2 * g) = true) :
    Calls Try.prog 33 #[.int .i64 g, .int .i64 l, .int .i64 t] w fun e w' => e = .returned (planV (2 * g) true 0) ∧ Below w.heap.size w w' := by
  have HM := Lib.hid hm
  clear hm
  have HC := Lib.hid (show checkI g l t = 0 from by simp [checkI, hg, hb])
  obtain ⟨hg0, hg1⟩ := pow2_range g hg
  obtain ⟨hl0, ht0, hl8, ht8⟩ := (lanes_good g l t).1 hb
  clear hg hb
  go_enter Try.func33, Try.ntmps33
  go_wp2_with fail
  refine (check_any g l t _).mono ?_
  rintro e w1 ⟨rfl, rfl⟩
  rw [HC.out]
  go_wp2_with fail
  refine (rvalid_any (2 * g) _).mono ?_
  rintro e w1 ⟨rfl, hw1⟩
  rw [HM.out]
  subst hw1
  go_wp2_with fail
  refine bodyPost_ret (v := planV (2 * g) true 0) (by simp [results, Try.results33, go_sem, planV]) rfl ⟨rfl, ?_⟩
  go_grown

set_option maxHeartbeats 2000000 in
theorem rinsert_last (hg : pow2 g = true) (hb : badLanes g l t = false) (hr : 7 * g ≤ l + t) (hh : 7 * g < 2 * l) (hm : pow2 (2 * g) = false) (hl : l < 7 * g) :
    Calls Try.prog 33 #[.int .i64 g, .int .i64 l, .int .i64 t] w fun e w' => e = .returned (planV g true 0) ∧ Below w.heap.size w w' := by
  have HM := Lib.hid hm
  clear hm
  have HC := Lib.hid (show checkI g l t = 0 from by simp [checkI, hg, hb])
  obtain ⟨hg0, hg1⟩ := pow2_range g hg
  obtain ⟨hl0, ht0, hl8, ht8⟩ := (lanes_good g l t).1 hb
  clear hg hb
  go_enter Try.func33, Try.ntmps33
  go_wp2_with fail
  refine (check_any g l t _).mono ?_
  rintro e w1 ⟨rfl, rfl⟩
  rw [HC.out]
  go_wp2_with fail
  refine (rvalid_any (2 * g) _).mono ?_
  rintro e w1 ⟨rfl, hw1⟩
  rw [HM.out]
  subst hw1
  go_wp2_with fail
  refine bodyPost_ret (v := planV g true 0) (by simp [results, Try.results33, go_sem, planV]) rfl ⟨rfl, ?_⟩
  go_grown

set_option maxHeartbeats 2000000 in
theorem rinsert_full (hg : pow2 g = true) (hb : badLanes g l t = false) (hr : 7 * g ≤ l + t) (hh : 7 * g < 2 * l) (hm : pow2 (2 * g) = false) (hl : 7 * g ≤ l) :
    Calls Try.prog 33 #[.int .i64 g, .int .i64 l, .int .i64 t] w fun e w' => e = .returned (planV 0 false 7) ∧ Below w.heap.size w w' := by
  have HM := Lib.hid hm
  clear hm
  have HC := Lib.hid (show checkI g l t = 0 from by simp [checkI, hg, hb])
  obtain ⟨hg0, hg1⟩ := pow2_range g hg
  obtain ⟨hl0, ht0, hl8, ht8⟩ := (lanes_good g l t).1 hb
  clear hg hb
  go_enter Try.func33, Try.ntmps33
  go_wp2_with fail
  refine (check_any g l t _).mono ?_
  rintro e w1 ⟨rfl, rfl⟩
  rw [HC.out]
  go_wp2_with fail
  refine (rvalid_any (2 * g) _).mono ?_
  rintro e w1 ⟨rfl, hw1⟩
  rw [HM.out]
  subst hw1
  go_wp2_with fail
  refine bodyPost_ret (v := planV 0 false 7) (by simp [results, Try.results33, go_sem, planV]) rfl ⟨rfl, ?_⟩
  go_grown

set_option maxHeartbeats 2000000 in
theorem rremove_shrink (hg : pow2 g = true) (hb : badLanes g l t = false) (hlm : l ≤ 7340032) (hs : boundI l < 8 * g) :
    Calls Try.prog 35 #[.int .i64 g, .int .i64 l, .int .i64 t] w fun e w' => e = .returned (planV (boundI l / 8) true 0) ∧ Below w.heap.size w w' := by
  have hbd := bound_pos l ((lanes_good g l t).1 hb).1 (by have := (lanes_good g l t).1 hb; have := pow2_range g hg; omega)
  have HC := Lib.hid (show checkI g l t = 0 from by simp [checkI, hg, hb])
  obtain ⟨hg0, hg1⟩ := pow2_range g hg
  obtain ⟨hl0, ht0, hl8, ht8⟩ := (lanes_good g l t).1 hb
  clear hg hb
  go_enter Try.func35, Try.ntmps35
  go_wp2_with fail
  refine (check_any g l t _).mono ?_
  rintro e w1 ⟨rfl, rfl⟩
  rw [HC.out]
  go_wp2_with fail
  refine (RBound_ok l hl0 hlm _).mono ?_
  rintro e w1 ⟨rfl, hw1⟩
  subst hw1
  go_wp2_with fail
  refine bodyPost_ret (v := planV (boundI l / 8) true 0) (by simp [results, Try.results35, go_sem, planV]) rfl ⟨rfl, ?_⟩
  go_grown

set_option maxHeartbeats 2000000 in
theorem rremove_stay (hg : pow2 g = true) (hb : badLanes g l t = false) (hlm : l ≤ 7340032) (hs : 8 * g ≤ boundI l) :
    Calls Try.prog 35 #[.int .i64 g, .int .i64 l, .int .i64 t] w fun e w' => e = .returned (planV g false 0) ∧ Below w.heap.size w w' := by
  have hbd := bound_pos l ((lanes_good g l t).1 hb).1 (by have := (lanes_good g l t).1 hb; have := pow2_range g hg; omega)
  have HC := Lib.hid (show checkI g l t = 0 from by simp [checkI, hg, hb])
  obtain ⟨hg0, hg1⟩ := pow2_range g hg
  obtain ⟨hl0, ht0, hl8, ht8⟩ := (lanes_good g l t).1 hb
  clear hg hb
  go_enter Try.func35, Try.ntmps35
  go_wp2_with fail
  refine (check_any g l t _).mono ?_
  rintro e w1 ⟨rfl, rfl⟩
  rw [HC.out]
  go_wp2_with fail
  refine (RBound_ok l hl0 hlm _).mono ?_
  rintro e w1 ⟨rfl, hw1⟩
  subst hw1
  go_wp2_with fail
  refine bodyPost_ret (v := planV g false 0) (by simp [results, Try.results35, go_sem, planV]) rfl ⟨rfl, ?_⟩
  go_grown

set_option maxHeartbeats 2000000 in
theorem rremove_great (hg : pow2 g = true) (hb : badLanes g l t = false) (hlm : 7340032 < l) :
    Calls Try.prog 35 #[.int .i64 g, .int .i64 l, .int .i64 t] w fun e w' => e = .returned (planV g false 0) ∧ Below w.heap.size w w' := by
  have HC := Lib.hid (show checkI g l t = 0 from by simp [checkI, hg, hb])
  obtain ⟨hg0, hg1⟩ := pow2_range g hg
  obtain ⟨hl0, ht0, hl8, ht8⟩ := (lanes_good g l t).1 hb
  clear hg hb
  go_enter Try.func35, Try.ntmps35
  go_wp2_with fail
  refine (check_any g l t _).mono ?_
  rintro e w1 ⟨rfl, rfl⟩
  rw [HC.out]
  go_wp2_with fail
  refine (RBound_bad l ((bad_iff l).2 (.inr hlm)) _).mono ?_
  rintro e w1 ⟨rfl, hw1⟩
  subst hw1
  go_wp2_with fail
  refine bodyPost_ret (v := planV g false 0) (by simp [results, Try.results35, go_sem, planV]) rfl ⟨rfl, ?_⟩
  go_grown
end

/-- both Inserts give one plan and one error -/
theorem insert_both (g l t : Int) (g0 : -9223372036854775808 ≤ g) (g1 : g ≤ 9223372036854775807) (l0 : -9223372036854775808 ≤ l) (l1 : l ≤ 9223372036854775807) :
    ∃ (p : Int) (r : Bool) (c : Int), (∀ w, Calls Try.prog 32 #[.int .i64 g, .int .i64 l, .int .i64 t] w fun e w' => e = .returned (planV p r c) ∧ Below w.heap.size w w') ∧
      (∀ w, Calls Try.prog 33 #[.int .i64 g, .int .i64 l, .int .i64 t] w fun e w' => e = .returned (planV p r c) ∧ Below w.heap.size w w') ∧
      ((c = 2 ∧ pow2 g = false ∧ p = 0 ∧ r = false) ∨ (c = 3 ∧ pow2 g = true ∧ badLanes g l t = true ∧ p = 0 ∧ r = false) ∨
       (pow2 g = true ∧ badLanes g l t = false ∧ ((c = 0 ∧ p = g ∧ r = false ∧ l + t < 7 * g) ∨ (c = 0 ∧ p = g ∧ r = true ∧ l < 7 * g ∧ 7 * g ≤ l + t) ∨
        (c = 0 ∧ p = 2 * g ∧ r = true ∧ pow2 (2 * g) = true ∧ 7 * g < 2 * l ∧ 7 * g ≤ l + t) ∨ (c = 7 ∧ p = 0 ∧ r = false ∧ 7 * g ≤ l ∧ pow2 (2 * g) = false)))) := by
  cases hg : pow2 g
  · exact ⟨0, false, 2, fun w => insert_groups g l t w g0 g1 l0 l1 hg, fun w => rinsert_groups g l t w hg, .inl ⟨rfl, rfl, rfl, rfl⟩⟩
  have hgr := pow2_range g hg
  cases hb : badLanes g l t
  · by_cases hr : l + t < 7 * g
    · have hi : ∀ w, Calls Try.prog 32 #[.int .i64 g, .int .i64 l, .int .i64 t] w fun e w' => e = .returned (planV g false 0) ∧ Below w.heap.size w w' := by
        intro w
        cases hm : pow2 (2 * g)
        · exact insert_room_false g l t w g0 g1 l0 l1 hg hb hr hm
        · exact insert_room_true g l t w g0 g1 l0 l1 hg hb hr hm
      exact ⟨g, false, 0, hi, fun w => rinsert_room g l t w hg hb hr, .inr (.inr ⟨rfl, rfl, .inl ⟨rfl, rfl, rfl, hr⟩⟩)⟩
    · have hr' : 7 * g ≤ l + t := by omega
      by_cases hh : 2 * l ≤ 7 * g
      · have hi : ∀ w, Calls Try.prog 32 #[.int .i64 g, .int .i64 l, .int .i64 t] w fun e w' => e = .returned (planV g true 0) ∧ Below w.heap.size w w' := by
          intro w
          cases hm : pow2 (2 * g)
          · exact insert_half_false g l t w g0 g1 l0 l1 hg hb hr' hh hm
          · exact insert_half_true g l t w g0 g1 l0 l1 hg hb hr' hh hm
        exact ⟨g, true, 0, hi, fun w => rinsert_half g l t w hg hb hr' hh, .inr (.inr ⟨rfl, rfl, .inr (.inl ⟨rfl, rfl, rfl, by omega, hr'⟩)⟩)⟩
      · have hh' : 7 * g < 2 * l := by omega
        cases hm : pow2 (2 * g)
        · by_cases hl : l < 7 * g
          · exact ⟨g, true, 0, fun w => insert_last g l t w g0 g1 l0 l1 hg hb hr' hh' hm hl, fun w => rinsert_last g l t w hg hb hr' hh' hm hl, .inr (.inr ⟨rfl, rfl, .inr (.inl ⟨rfl, rfl, rfl, hl, hr'⟩)⟩)⟩
          · have hl' : 7 * g ≤ l := by omega
            exact ⟨0, false, 7, fun w => insert_full g l t w g0 g1 l0 l1 hg hb hr' hh' hm hl', fun w => rinsert_full g l t w hg hb hr' hh' hm hl', .inr (.inr ⟨rfl, rfl, .inr (.inr (.inr ⟨rfl, rfl, rfl, hl', rfl⟩))⟩)⟩
        · exact ⟨2 * g, true, 0, fun w => insert_more g l t w g0 g1 l0 l1 hg hb hr' hh' hm, fun w => rinsert_more g l t w hg hb hr' hh' hm, .inr (.inr ⟨rfl, rfl, .inr (.inr (.inl ⟨rfl, rfl, rfl, rfl, hh', hr'⟩))⟩)⟩
  · exact ⟨0, false, 3, fun w => insert_lanes g l t w g0 g1 l0 l1 hg hb, fun w => rinsert_lanes g l t w hg hb, .inr (.inl ⟨rfl, rfl, rfl, rfl, rfl⟩)⟩

/-- the bound of so many slot numbers is at least 8 times the greatest number of groups -/
theorem bound_great (l : Int) (h : 7340032 < l) (h2 : l ≤ 9000000) : 8388608 ≤ boundI l := by
  obtain ⟨k, hk, e, h1, _⟩ := up_spec 1 (4 * l + 16) 30 1 (by simp only [Int.reducePow]; omega)
  unfold boundI; rw [e]; omega
/-- both Removes give one plan and one error -/
theorem remove_both (g l t : Int) (g0 : -9223372036854775808 ≤ g) (g1 : g ≤ 9223372036854775807) (l0 : -9223372036854775808 ≤ l) (l1 : l ≤ 9223372036854775807) :
    ∃ (p : Int) (r : Bool) (c : Int), (∀ w, Calls Try.prog 34 #[.int .i64 g, .int .i64 l, .int .i64 t] w fun e w' => e = .returned (planV p r c) ∧ Below w.heap.size w w') ∧
      (∀ w, Calls Try.prog 35 #[.int .i64 g, .int .i64 l, .int .i64 t] w fun e w' => e = .returned (planV p r c) ∧ Below w.heap.size w w') ∧
      ((c = 2 ∧ pow2 g = false ∧ p = 0 ∧ r = false) ∨ (c = 3 ∧ pow2 g = true ∧ badLanes g l t = true ∧ p = 0 ∧ r = false) ∨
       (c = 0 ∧ pow2 g = true ∧ badLanes g l t = false ∧ ((p = boundI l / 8 ∧ r = true ∧ boundI l < 8 * g ∧ l ≤ 7340032) ∨ (p = g ∧ r = false ∧ 8 * g ≤ boundI l)))) := by
  cases hg : pow2 g
  · exact ⟨0, false, 2, fun w => remove_groups g l t w g0 g1 l0 l1 hg, fun w => rremove_groups g l t w hg, .inl ⟨rfl, rfl, rfl, rfl⟩⟩
  have hgr := pow2_range g hg
  cases hb : badLanes g l t
  · have hl := (lanes_good g l t).1 hb
    by_cases hlm : l ≤ 7340032
    · by_cases hs : boundI l < 8 * g
      · exact ⟨boundI l / 8, true, 0, fun w => remove_shrink g l t w g0 g1 l0 l1 hg hb hs, fun w => rremove_shrink g l t w hg hb hlm hs, .inr (.inr ⟨rfl, rfl, rfl, .inl ⟨rfl, rfl, hs, hlm⟩⟩)⟩
      · have hs' : 8 * g ≤ boundI l := by omega
        exact ⟨g, false, 0, fun w => remove_stay g l t w g0 g1 l0 l1 hg hb hs', fun w => rremove_stay g l t w hg hb hlm hs', .inr (.inr ⟨rfl, rfl, rfl, .inr ⟨rfl, rfl, hs'⟩⟩)⟩
    · have hlm' : 7340032 < l := by omega
      have hs' : 8 * g ≤ boundI l := by have := bound_great l hlm' (by omega); omega
      exact ⟨g, false, 0, fun w => remove_stay g l t w g0 g1 l0 l1 hg hb hs', fun w => rremove_great g l t w hg hb hlm', .inr (.inr ⟨rfl, rfl, rfl, .inr ⟨rfl, rfl, hs'⟩⟩)⟩
  · exact ⟨0, false, 3, fun w => remove_lanes g l t w g0 g1 l0 l1 hg hb, fun w => rremove_lanes g l t w hg hb, .inr (.inl ⟨rfl, rfl, rfl, rfl, rfl⟩)⟩
end Go.Proofs.Ytdilhldaipjhoaa.Grow
