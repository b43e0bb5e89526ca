/-
  Walks over package growth (layer 8) and its reference, second part: limits, bounds and plans.
-/
import Derived.Test.YtdilhldaipjhoaaGrowW
namespace Go.Proofs.Ytdilhldaipjhoaa.Grow
open Go.RowKit Kit GrowM

theorem wrongSide (b : Bool) (e : Int) (h : b = true) : (if b then e else 0 : Int) = e := by simp [h]

set_option maxHeartbeats 400000 in
theorem limit_ok (g : Int) (hg : pow2 g = true) (w : World) :
    Calls Try.prog 24 #[.int .i64 g] w fun e w' => e = .returned (.tuple #[.int .i64 (7 * g), .int .i64 0]) ∧ Below w.heap.size w w' := by
  obtain ⟨g0, g1⟩ := pow2_range g hg
  have hn : (!pow2 g) = false := by rw [hg]; rfl
  go_enter Try.func24, Try.ntmps24
  go_wp2_with fail
  refine (nogroups_any g _).mono ?_
  rintro e w1 ⟨rfl, b1⟩
  rw [hn]
  go_wp2_with fail
  refine (first1_any _ false 2 _ (by simp [go_sem]) (by simp [go_sem])).mono ?_
  rintro e w2 ⟨rfl, b2⟩
  go_wp2_with fail
  go_ret2
  exact ⟨rfl, tr (tr b1 (by go_grown)) b2⟩
set_option maxHeartbeats 400000 in
theorem limit_bad (g : Int) (hg : pow2 g = false) (w : World) :
    Calls Try.prog 24 #[.int .i64 g] w fun e w' => e = .returned (.tuple #[.int .i64 0, .int .i64 2]) ∧ Below w.heap.size w w' := by
  have hn : (!pow2 g) = true := by rw [hg]; rfl
  go_enter Try.func24, Try.ntmps24
  go_wp2_with fail
  refine (nogroups_any g _).mono ?_
  rintro e w1 ⟨rfl, b1⟩
  rw [hn]
  go_wp2_with fail
  refine (first1_any _ true 2 _ (by simp [go_sem]) (by simp [go_sem])).mono ?_
  rintro e w2 ⟨rfl, b2⟩
  go_wp2_with fail
  go_ret2
  exact ⟨rfl, tr (tr b1 (by go_grown)) b2⟩
set_option maxHeartbeats 400000 in
theorem rlimit_ok (g : Int) (hg : pow2 g = true) (w : World) :
    Calls Try.prog 25 #[.int .i64 g] w fun e w' => e = .returned (.tuple #[.int .i64 (7 * g), .int .i64 0]) ∧ w = w' := by
  obtain ⟨g0, g1⟩ := pow2_range g hg
  go_enter Try.func25, Try.ntmps25
  go_wp2_with fail
  refine (rvalid_any g _).mono ?_
  rintro e w1 ⟨rfl, rfl⟩
  go_wp2_with fail
  go_ret2
  exact ⟨rfl, rfl⟩
set_option maxHeartbeats 400000 in
theorem rlimit_bad (g : Int) (hg : pow2 g = false) (w : World) :
    Calls Try.prog 25 #[.int .i64 g] w fun e w' => e = .returned (.tuple #[.int .i64 0, .int .i64 2]) ∧ w = w' := by
  go_enter Try.func25, Try.ntmps25
  go_wp2_with fail
  refine (rvalid_any g _).mono ?_
  rintro e w1 ⟨rfl, rfl⟩
  go_wp2_with fail
  go_ret2
  exact ⟨rfl, rfl⟩

/-! ### doubling loops -/
def boundI (l : Int) : Int := up 1 (4 * l + 16) 30 1
theorem bound_from (l : Int) (h0 : 0 ≤ l) : up 1 (4 * l + 16) 26 16 = boundI l := by
  unfold boundI
  rw [up_step 1 _ 29 1 (by omega), up_step 1 _ 28 _ (by omega), up_step 1 _ 27 _ (by omega), up_step 1 _ 26 _ (by omega)]; rfl
set_option maxHeartbeats 400000 in
theorem bound_any (l : Int) (h0 : 0 ≤ l) (h1 : l ≤ 9000000) (w : World) :
    Calls Try.prog 45 #[.int .i64 l] w fun e w' => e = .returned (.int .i64 (boundI l)) ∧ w = w' := by
  have HF := Lib.hid (bound_from l h0)
  go_enter Try.func45, Try.ntmps45
  go_wp2
  go_loop [3] (fun n => ∃ (f : Nat) (m : Int), n = .int .i64 m ∧ 1 ≤ m ∧ m ≤ 80000000 ∧ f ≤ 26 ∧ m * 2 ^ f = 1073741824 ∧ up 1 (4 * l + 16) f m = boundI l) (fun n => (80000000 - intOf n).toNat)
  case atStart => exact ⟨26, 16, rfl, by omega, by omega, by omega, by decide, HF.out⟩
  case round =>
    obtain ⟨f, m, rfl, m0, m1, hf, hm, hu⟩ := hrel
    by_cases hlt : m < 4 * l + 16
    · have HU := Lib.hid hu
      have HM := Lib.hid hm
      clear hu hm
      go_wp2
      go_round
      case rel =>
        cases f with
        | zero => have := HM.out; simp at this; omega
        | succ f =>
          refine ⟨f, 2 * m, by go_num, by omega, by omega, by omega, ?_, ?_⟩
          · have := HM.out
            rw [Int.pow_succ] at this
            rw [← this, Int.mul_comm 2 m, Int.mul_assoc, Int.mul_comm 2]
          · rw [← HU.out, up_step 1 _ f m (by omega)]
      case measure => simp [intOf]; omega
    · have HU := Lib.hid (show m = boundI l from by rw [← hu, up_stop _ _ _ _ (by omega)])
      clear hu hm
      go_wp2
      go_ret
      exact ⟨ret_int HU.out, rfl⟩

theorem bad_iff (l : Int) : badLive l = true ↔ l < 0 ∨ 7340032 < l := by simp [badLive]
theorem good_iff (l : Int) : badLive l = false ↔ 0 ≤ l ∧ l ≤ 7340032 := by simp [badLive]
set_option maxHeartbeats 400000 in
theorem Bound_ok (l : Int) (h0 : 0 ≤ l) (h1 : l ≤ 7340032) (w : World) :
    Calls Try.prog 27 #[.int .i64 l] w fun e w' => e = .returned (.tuple #[.int .i64 (boundI l), .int .i64 0]) ∧ Below w.heap.size w w' := by
  have hb := (good_iff l).2 ⟨h0, h1⟩
  go_enter Try.func27, Try.ntmps27
  go_wp2_with fail
  refine (nolive_any l _).mono ?_
  rintro e w1 ⟨rfl, b1⟩
  rw [hb]
  go_wp2_with fail
  refine (first1_any _ false 3 _ (by simp [go_sem]) (by simp [go_sem])).mono ?_
  rintro e w2 ⟨rfl, b2⟩
  go_wp2_with fail
  refine (bound_any l h0 (by omega) _).mono ?_
  rintro e w3 ⟨rfl, rfl⟩
  go_wp2_with fail
  go_ret2
  exact ⟨rfl, tr (tr b1 (by go_grown)) b2⟩
set_option maxHeartbeats 400000 in
theorem Bound_bad (l : Int) (hb : badLive l = true) (w : World) :
    Calls Try.prog 27 #[.int .i64 l] w fun e w' => e = .returned (.tuple #[.int .i64 0, .int .i64 3]) ∧ Below w.heap.size w w' := by
  go_enter Try.func27, Try.ntmps27
  go_wp2_with fail
  refine (nolive_any l _).mono ?_
  rintro e w1 ⟨rfl, b1⟩
  rw [hb]
  go_wp2_with fail
  refine (first1_any _ true 3 _ (by simp [go_sem]) (by simp [go_sem])).mono ?_
  rintro e w2 ⟨rfl, b2⟩
  go_wp2_with fail
  go_ret2
  exact ⟨rfl, tr (tr b1 (by go_grown)) b2⟩
set_option maxHeartbeats 400000 in
theorem RBound_ok (l : Int) (h0 : 0 ≤ l) (h1 : l ≤ 7340032) (w : World) :
    Calls Try.prog 28 #[.int .i64 l] w fun e w' => e = .returned (.tuple #[.int .i64 (boundI l), .int .i64 0]) ∧ w = w' := by
  go_enter Try.func28, Try.ntmps28
  go_wp2
  go_loop [4] (fun n => ∃ (f : Nat) (m : Int), n = .int .i64 m ∧ 1 ≤ m ∧ m ≤ 80000000 ∧ f ≤ 30 ∧ m * 2 ^ f = 1073741824 ∧ up 1 (4 * l + 16) f m = boundI l) (fun n => (80000000 - intOf n).toNat)
  case atStart => exact ⟨30, 1, rfl, by omega, by omega, by omega, by decide, rfl⟩
  case round =>
    obtain ⟨f, m, rfl, m0, m1, hf, hm, hu⟩ := hrel
    by_cases hlt : m < 4 * l + 16
    · have HU := Lib.hid hu
      have HM := Lib.hid hm
      clear hu hm
      go_wp2
      go_round
      case rel =>
        cases f with
        | zero => have := HM.out; simp at this; omega
        | succ f =>
          refine ⟨f, 2 * m, by go_num, by omega, by omega, by omega, ?_, ?_⟩
          · have := HM.out
            rw [Int.pow_succ] at this
            rw [← this, Int.mul_comm 2 m, Int.mul_assoc, Int.mul_comm 2]
          · rw [← HU.out, up_step 1 _ f m (by omega)]
      case measure => simp [intOf]; omega
    · have HU := Lib.hid (show m = boundI l from by rw [← hu, up_stop _ _ _ _ (by omega)])
      clear hu hm
      go_wp2
      go_ret2
      exact ⟨by simp [HU.out], rfl⟩
set_option maxHeartbeats 400000 in
theorem RBound_bad (l : Int) (hb : badLive l = true) (w : World) :
    Calls Try.prog 28 #[.int .i64 l] w fun e w' => e = .returned (.tuple #[.int .i64 0, .int .i64 3]) ∧ w = w' := by
  have hc := (bad_iff l).1 hb
  clear hb
  by_cases hn : l < 0
  · clear hc
    go_enter Try.func28, Try.ntmps28
    go_wp2
    go_ret2
    exact ⟨rfl, rfl⟩
  · have h2 : 7340032 < l := by omega
    clear hc
    go_enter Try.func28, Try.ntmps28
    go_wp2
    go_ret2
    exact ⟨rfl, rfl⟩

def groupsI (l : Int) : Int := up 7 l 30 1
set_option maxHeartbeats 400000 in
theorem Groups_ok (l : Int) (h0 : 0 ≤ l) (h1 : l ≤ 7340032) (w : World) :
    Calls Try.prog 29 #[.int .i64 l] w fun e w' => e = .returned (.tuple #[.int .i64 (groupsI l), .int .i64 0]) ∧ Below w.heap.size w w' := by
  have hb := (good_iff l).2 ⟨h0, h1⟩
  go_enter Try.func29, Try.ntmps29
  go_wp2_with fail
  refine (nolive_any l _).mono ?_
  rintro e w1 ⟨rfl, b1⟩
  rw [hb]
  go_wp2_with fail
  refine (first1_any _ false 3 _ (by simp [go_sem]) (by simp [go_sem])).mono ?_
  rintro e w2 ⟨rfl, b2⟩
  have hbel : Below w.heap.size w w2 := tr (tr b1 (by go_grown)) b2
  clear b1 b2 hb
  go_wp2_with fail
  go_loop [5] (fun n => ∃ (f : Nat) (m : Int), n = .int .i64 m ∧ 1 ≤ m ∧ m ≤ 80000000 ∧ f ≤ 30 ∧ m * 2 ^ f = 1073741824 ∧ up 7 l f m = groupsI l) (fun n => (80000000 - intOf n).toNat)
  case atStart => exact ⟨30, 1, rfl, by omega, by omega, by omega, by decide, rfl⟩
  case round =>
    obtain ⟨f, m, rfl, m0, m1, hf, hm, hu⟩ := hrel
    by_cases hlt : 7 * m < l
    · have HU := Lib.hid hu
      have HM := Lib.hid hm
      clear hu hm
      go_wp2
      go_round
      case rel =>
        cases f with
        | zero => have := HM.out; simp at this; omega
        | succ f =>
          refine ⟨f, 2 * m, by go_num, by omega, by omega, by omega, ?_, ?_⟩
          · have := HM.out
            rw [Int.pow_succ] at this
            rw [← this, Int.mul_comm 2 m, Int.mul_assoc, Int.mul_comm 2]
          · rw [← HU.out, up_step 7 _ f m (by omega)]
      case measure => simp [intOf]; omega
    · have HU := Lib.hid (show m = groupsI l from by rw [← hu, up_stop _ _ _ _ (by omega)])
      clear hu hm
      go_wp2
      go_ret2
      exact ⟨by simp [HU.out], hbel⟩
set_option maxHeartbeats 400000 in
theorem Groups_bad (l : Int) (hb : badLive l = true) (w : World) :
    Calls Try.prog 29 #[.int .i64 l] w fun e w' => e = .returned (.tuple #[.int .i64 0, .int .i64 3]) ∧ Below w.heap.size w w' := by
  go_enter Try.func29, Try.ntmps29
  go_wp2_with fail
  refine (nolive_any l _).mono ?_
  rintro e w1 ⟨rfl, b1⟩
  rw [hb]
  go_wp2_with fail
  refine (first1_any _ true 3 _ (by simp [go_sem]) (by simp [go_sem])).mono ?_
  rintro e w2 ⟨rfl, b2⟩
  go_wp2_with fail
  go_ret2
  exact ⟨rfl, tr (tr b1 (by go_grown)) b2⟩
set_option maxHeartbeats 400000 in
theorem RGroups_ok (l : Int) (h0 : 0 ≤ l) (h1 : l ≤ 7340032) (w : World) :
    Calls Try.prog 30 #[.int .i64 l] w fun e w' => e = .returned (.tuple #[.int .i64 (groupsI l), .int .i64 0]) ∧ w = w' := by
  go_enter Try.func30, Try.ntmps30
  go_wp2
  go_loop [4] (fun n => ∃ (f : Nat) (m : Int), n = .int .i64 m ∧ 1 ≤ m ∧ m ≤ 80000000 ∧ f ≤ 30 ∧ m * 2 ^ f = 1073741824 ∧ up 7 l f m = groupsI l) (fun n => (80000000 - intOf n).toNat)
  case atStart => exact ⟨30, 1, rfl, by omega, by omega, by omega, by decide, rfl⟩
  case round =>
    obtain ⟨f, m, rfl, m0, m1, hf, hm, hu⟩ := hrel
    by_cases hlt : 7 * m < l
    · have HU := Lib.hid hu
      have HM := Lib.hid hm
      clear hu hm
      go_wp2
      go_round
      case rel =>
        cases f with
        | zero => have := HM.out; simp at this; omega
        | succ f =>
          refine ⟨f, 2 * m, by go_num, by omega, by omega, by omega, ?_, ?_⟩
          · have := HM.out
            rw [Int.pow_succ] at this
            rw [← this, Int.mul_comm 2 m, Int.mul_assoc, Int.mul_comm 2]
          · rw [← HU.out, up_step 7 _ f m (by omega)]
      case measure => simp [intOf]; omega
    · have HU := Lib.hid (show m = groupsI l from by rw [← hu, up_stop _ _ _ _ (by omega)])
      clear hu hm
      go_wp2
      go_ret2
      exact ⟨by simp [HU.out], rfl⟩
set_option maxHeartbeats 400000 in
theorem RGroups_bad (l : Int) (hb : badLive l = true) (w : World) :
    Calls Try.prog 30 #[.int .i64 l] w fun e w' => e = .returned (.tuple #[.int .i64 0, .int .i64 3]) ∧ w = w' := by
  have hc := (bad_iff l).1 hb
  clear hb
  by_cases hn : l < 0
  · clear hc
    go_enter Try.func30, Try.ntmps30
    go_wp2
    go_ret2
    exact ⟨rfl, rfl⟩
  · have h2 : 7340032 < l := by omega
    clear hc
    go_enter Try.func30, Try.ntmps30
    go_wp2
    go_ret2
    exact ⟨rfl, rfl⟩

/-! ### plans -/
theorem lanes_good (g l t : Int) : badLanes g l t = false ↔ 0 ≤ l ∧ 0 ≤ t ∧ l ≤ 8 * g ∧ t ≤ 8 * g - l := by simp [badLanes]; omega
def checkI (g l t : Int) : Int := if pow2 g then (if badLanes g l t then 3 else 0) else 2
set_option maxHeartbeats 1000000 in
theorem check_any (g l t : Int) (w : World) :
    Calls Try.prog 48 #[.int .i64 g, .int .i64 l, .int .i64 t] w fun e w' => e = .returned (.int .i64 (checkI g l t)) ∧ w = w' := by
  cases hg : pow2 g
  · have HC := Lib.hid (show checkI g l t = 2 from by simp [checkI, hg])
    go_enter Try.func48, Try.ntmps48
    go_wp2_with fail
    refine (rvalid_any g _).mono ?_
    rintro e w1 ⟨rfl, rfl⟩
    go_wp2_with fail
    go_ret
    exact ⟨ret_int HC.out.symm, rfl⟩
  · obtain ⟨g0, g1⟩ := pow2_range g hg
    have HC := Lib.hid (show checkI g l t = if badLanes g l t then 3 else 0 from by simp [checkI, hg])
    have bad : badLanes g l t = true → checkI g l t = 3 := fun h => by rw [HC.out, h]; rfl
    have good : badLanes g l t = false → checkI g l t = 0 := fun h => by rw [HC.out, h]; rfl
    by_cases h1 : l < 0
    · have HB := Lib.hid (bad (by simp [badLanes, h1])); clear bad good
      go_enter Try.func48, Try.ntmps48
      go_wp2_with (go_at_call 15; refine (rvalid_any g _).mono ?_; rintro e w1 ⟨rfl, rfl⟩)
      go_ret
      exact ⟨ret_int HB.out.symm, rfl⟩
    by_cases h2 : t < 0
    · have HB := Lib.hid (bad (by simp [badLanes, h2])); clear bad good
      go_enter Try.func48, Try.ntmps48
      go_wp2_with (go_at_call 15; refine (rvalid_any g _).mono ?_; rintro e w1 ⟨rfl, rfl⟩)
      go_ret
      exact ⟨ret_int HB.out.symm, rfl⟩
    by_cases h3 : 8 * g < l
    · have HB := Lib.hid (bad (by simp [badLanes, h3])); clear bad good
      go_enter Try.func48, Try.ntmps48
      go_wp2_with (go_at_call 15; refine (rvalid_any g _).mono ?_; rintro e w1 ⟨rfl, rfl⟩)
      go_ret
      exact ⟨ret_int HB.out.symm, rfl⟩
    by_cases h5 : 8 * g < t
    · have HB := Lib.hid (bad (by simp [badLanes]; omega)); clear bad good
      go_enter Try.func48, Try.ntmps48
      go_wp2_with (go_at_call 15; refine (rvalid_any g _).mono ?_; rintro e w1 ⟨rfl, rfl⟩)
      go_ret
      exact ⟨ret_int HB.out.symm, rfl⟩
    by_cases h4 : 8 * g < l + t
    · have HB := Lib.hid (bad (by simp [badLanes]; omega)); clear bad good
      go_enter Try.func48, Try.ntmps48
      go_wp2_with (go_at_call 15; refine (rvalid_any g _).mono ?_; rintro e w1 ⟨rfl, rfl⟩)
      go_ret
      exact ⟨ret_int HB.out.symm, rfl⟩
    · have HB := Lib.hid (good ((lanes_good g l t).2 (by omega))); clear bad good
      go_enter Try.func48, Try.ntmps48
      go_wp2_with (go_at_call 15; refine (rvalid_any g _).mono ?_; rintro e w1 ⟨rfl, rfl⟩)
      go_ret
      exact ⟨ret_int HB.out.symm, rfl⟩
end Go.Proofs.Ytdilhldaipjhoaa.Grow
