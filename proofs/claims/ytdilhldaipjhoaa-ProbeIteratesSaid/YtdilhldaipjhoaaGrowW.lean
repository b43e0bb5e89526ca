/-
  Walks over package growth (layer 8) and its reference, and what they call of layer 6.
-/
import Derived.Test.YtdilhldaipjhoaaRows
import Derived.Test.YtdilhldaipjhoaaKit
import Derived.Test.YtdilhldaipjhoaaGrowM
import Derived.BigQuiet
import Derived.Deep.QuietTactic
import Derived.Deep.RegionHeld3
namespace Go.Proofs.Ytdilhldaipjhoaa.Grow
open Go.RowKit Kit GrowM

set_option maxHeartbeats 400000 in
theorem valid_any (g : Int) (w : World) :
    Calls Try.prog 14 #[.int .i64 g] w fun e w' => e = .returned (.bool (pow2 g)) ∧ w = w' := by
  by_cases h1 : 1 ≤ g
  · by_cases h2 : g ≤ 1048576
    · have HP := Lib.hid (pow2_and g h1 h2)
      go_enter Try.func14, Try.ntmps14
      go_wp2
      go_ret
      exact ⟨ret_bool HP.out, rfl⟩
    · have HP := Lib.hid (show pow2 g = false from by cases h : pow2 g; · rfl
                                                      · have := pow2_range g h; omega)
      go_enter Try.func14, Try.ntmps14
      go_wp2
      go_ret
      exact ⟨ret_bool HP.out.symm, rfl⟩
  · have HP := Lib.hid (show pow2 g = false from by cases h : pow2 g; · rfl
                                                    · have := pow2_range g h; omega)
    go_enter Try.func14, Try.ntmps14
    go_wp2
    go_ret
    exact ⟨ret_bool HP.out.symm, rfl⟩

set_option maxHeartbeats 400000 in
theorem rvalid_any (g : Int) (w : World) :
    Calls Try.prog 15 #[.int .i64 g] w fun e w' => e = .returned (.bool (pow2 g)) ∧ w = w' := by
  go_enter Try.func15, Try.ntmps15
  go_wp2
  go_loop [3] (fun n => ∃ k : Nat, k ≤ 21 ∧ n = .int .i64 (2 ^ k) ∧ ∀ j : Nat, j < k → g ≠ 2 ^ j) (fun n => (3000000 - intOf n).toNat)
  case atStart => exact ⟨0, by omega, rfl, fun j hj => absurd hj (by omega)⟩
  case round =>
    obtain ⟨k, hk, rfl, hj⟩ := hrel
    have hp := pow_pos' k
    have hq := pow_le k 21 hk
    simp only [Int.reducePow] at hq
    have HS := Lib.hid (show (2 : Int) ^ (k + 1) = 2 * 2 ^ k from by rw [Int.pow_succ, Int.mul_comm])
    have HJ := Lib.hid hj
    have HL := Lib.hid (fun h : k ≤ 20 => by have := pow_le k 20 h; simpa using this)
    have HG := Lib.hid (fun h : ¬ k ≤ 20 => pow_le 21 k (by omega))
    clear hj
    by_cases hlt : k ≤ 20
    · have h20 := HL.out hlt
      clear HG HL
      by_cases he : g = 2 ^ k
      · have HT := Lib.hid ((pow2_iff g).2 ⟨k, hlt, he⟩)
        generalize (2 : Int) ^ k = p at *
        subst he
        go_wp2
        go_ret
        exact ⟨ret_bool HT.out.symm, rfl⟩
      · have HE := Lib.hid he
        have hb : ((2 : Int) ^ k == g) = false := by simp; exact fun h => he h.symm
        clear he
        go_wp2
        go_round
        case rel =>
          refine ⟨k + 1, by omega, by rw [HS.out], fun j hj2 => ?_⟩
          by_cases hjk : j = k
          · rw [hjk]; exact HE.out
          · exact HJ.out j (by omega)
        case measure => simp [intOf]; omega
    · have h21 := HG.out hlt
      simp only [Int.reducePow] at h21
      clear HG HL
      have HT := Lib.hid (show pow2 g = false from by
        cases h : pow2 g
        · rfl
        · obtain ⟨j, hj, e⟩ := (pow2_iff g).1 h
          exact absurd e (HJ.out j (by omega)))
      go_wp2
      go_ret
      exact ⟨ret_bool HT.out.symm, rfl⟩

/-! ### what is wrong -/
set_option maxHeartbeats 400000 in
theorem first1_any (B : Nat) (b : Bool) (e : Int) (w : World) (c0 : w.cell? ⟨B, 0, none⟩ = some (.bool b)) (c1 : w.cell? ⟨B, 1, none⟩ = some (.int .i64 e)) :
    Calls Try.prog 42 #[.slice (some ⟨B, 0, none⟩) 1 1] w fun r w' => r = .returned (.int .i64 (if b then e else 0)) ∧ Below w.heap.size w w' := by
  cases b
  · go_enter Try.func42, Try.ntmps42
    go_wp2
    go_rounds 2
    go_ret
    exact ⟨rfl, by go_grown⟩
  · go_enter Try.func42, Try.ntmps42
    go_wp2
    go_rounds 2
    go_ret
    exact ⟨rfl, by go_grown⟩
set_option maxHeartbeats 400000 in
theorem first2_any (B : Nat) (b b2 : Bool) (e e2 : Int) (w : World) (c0 : w.cell? ⟨B, 0, none⟩ = some (.bool b)) (c1 : w.cell? ⟨B, 1, none⟩ = some (.int .i64 e)) (c2 : w.cell? ⟨B, 2, none⟩ = some (.bool b2)) (c3 : w.cell? ⟨B, 3, none⟩ = some (.int .i64 e2)) (hB : B < w.heap.size) :
    Calls Try.prog 42 #[.slice (some ⟨B, 0, none⟩) 2 2] w fun r w' => r = .returned (.int .i64 (if b then e else if b2 then e2 else 0)) ∧ Below w.heap.size w w' := by
  cases b
  · cases b2
    · go_enter Try.func42, Try.ntmps42
      go_wp2
      go_rounds 3
      go_ret
      exact ⟨rfl, by go_grown⟩
    · go_enter Try.func42, Try.ntmps42
      go_wp2
      go_rounds 3
      go_ret
      exact ⟨rfl, by go_grown⟩
  · go_enter Try.func42, Try.ntmps42
    go_wp2
    go_rounds 3
    go_ret
    exact ⟨rfl, by go_grown⟩

set_option maxHeartbeats 400000 in
theorem nogroups_any (g : Int) (w : World) :
    Calls Try.prog 43 #[.int .i64 g] w fun e w' => e = .returned (.agg #[.bool (!pow2 g), .int .i64 2]) ∧ Below w.heap.size w w' := by
  go_enter Try.func43, Try.ntmps43
  go_wp2_with fail
  refine (valid_any g _).mono ?_
  rintro e w1 ⟨rfl, hw1⟩
  have hs : w1.heap.size = w.heap.size + 1 := by rw [← hw1]; simp
  have hb : Below w.heap.size w w1 := by rw [← hw1]; go_grown
  subst hw1
  go_wp2_with fail
  refine bodyPost_ret (v := .agg #[.bool (!pow2 g), .int .i64 2]) (by simp [results, Try.results43, go_sem]) rfl ⟨rfl, ?_⟩
  go_grown

/-- a number of slot numbers that is not allowed -/
def badLive (l : Int) : Bool := decide (l < 0) || decide (7340032 < l)
set_option maxHeartbeats 400000 in
theorem nolive_any (l : Int) (w : World) :
    Calls Try.prog 44 #[.int .i64 l] w fun e w' => e = .returned (.agg #[.bool (badLive l), .int .i64 3]) ∧ Below w.heap.size w w' := by
  by_cases h : l < 0
  · have HB := Lib.hid (show badLive l = true from by simp [badLive]; omega)
    rw [HB.out]
    go_enter Try.func44, Try.ntmps44
    go_wp2
    refine bodyPost_ret (v := .agg #[.bool true, .int .i64 3]) (by simp [results, Try.results44, go_sem]) rfl ⟨rfl, ?_⟩
    go_grown
  · by_cases h2 : 7340032 < l
    · have HB := Lib.hid (show badLive l = true from by simp [badLive]; omega)
      rw [HB.out]
      go_enter Try.func44, Try.ntmps44
      go_wp2
      refine bodyPost_ret (v := .agg #[.bool true, .int .i64 3]) (by simp [results, Try.results44, go_sem]) rfl ⟨rfl, ?_⟩
      go_grown
    · have HB := Lib.hid (show badLive l = false from by simp [badLive]; omega)
      rw [HB.out]
      go_enter Try.func44, Try.ntmps44
      go_wp2
      refine bodyPost_ret (v := .agg #[.bool false, .int .i64 3]) (by simp [results, Try.results44, go_sem]) rfl ⟨rfl, ?_⟩
      go_grown

/-- the lanes of an index that are not allowed -/
def badLanes (g l t : Int) : Bool := decide (l < 0) || decide (t < 0) || decide (8 * g < l) || decide (8 * g - l < t)
def LanesPost (g l t : Int) (w : World) (e : Ending) (w' : World) : Prop :=
  ∃ b : Bool, e = .returned (.agg #[.bool b, .int .i64 3]) ∧ (1 ≤ g → g ≤ 1048576 → b = badLanes g l t) ∧ Below w.heap.size w w'
set_option maxHeartbeats 1000000 in
theorem nolanes_any (g l t : Int) (w : World) (g0 : -9223372036854775808 ≤ g) (g1 : g ≤ 9223372036854775807) (l0 : -9223372036854775808 ≤ l) (l1 : l ≤ 9223372036854775807) :
    Calls Try.prog 47 #[.int .i64 g, .int .i64 l, .int .i64 t] w fun e w' => LanesPost g l t w e w' := by
  by_cases h1 : l < 0
  · have HB := Lib.hid (show badLanes g l t = true from by simp [badLanes, h1])
    go_enter Try.func47, Try.ntmps47
    go_wp2
    refine bodyPost_ret (v := .agg #[.bool true, .int .i64 3]) (by simp [results, Try.results47, go_sem]) rfl ⟨true, rfl, fun _ _ => HB.out.symm, ?_⟩
    go_grown
  by_cases h2 : t < 0
  · have HB := Lib.hid (show badLanes g l t = true from by simp [badLanes, h2])
    go_enter Try.func47, Try.ntmps47
    go_wp2
    refine bodyPost_ret (v := .agg #[.bool true, .int .i64 3]) (by simp [results, Try.results47, go_sem]) rfl ⟨true, rfl, fun _ _ => HB.out.symm, ?_⟩
    go_grown
  by_cases hg : 1 ≤ g ∧ g ≤ 1048576
  · obtain ⟨hg1, hg2⟩ := hg
    by_cases h3 : 8 * g < l
    · have HB := Lib.hid (show badLanes g l t = true from by simp [badLanes, h3])
      go_enter Try.func47, Try.ntmps47
      go_wp2
      refine bodyPost_ret (v := .agg #[.bool true, .int .i64 3]) (by simp [results, Try.results47, go_sem]) rfl ⟨true, rfl, fun _ _ => HB.out.symm, ?_⟩
      go_grown
    by_cases h4 : 8 * g - l < t
    · have HB := Lib.hid (show badLanes g l t = true from by simp [badLanes, h4])
      go_enter Try.func47, Try.ntmps47
      go_wp2
      refine bodyPost_ret (v := .agg #[.bool true, .int .i64 3]) (by simp [results, Try.results47, go_sem]; omega) rfl ⟨true, rfl, fun _ _ => HB.out.symm, ?_⟩
      go_grown
    · have HB := Lib.hid (show badLanes g l t = false from by simp [badLanes]; omega)
      go_enter Try.func47, Try.ntmps47
      go_wp2
      refine bodyPost_ret (v := .agg #[.bool false, .int .i64 3]) (by simp [results, Try.results47, go_sem]; omega) rfl ⟨false, rfl, fun _ _ => HB.out.symm, ?_⟩
      go_grown
  · have HG := Lib.hid hg
    clear hg
    have hp : ∀ b : Bool, ∀ e w', e = Ending.returned (.agg #[.bool b, .int .i64 3]) → Below w.heap.size w w' → LanesPost g l t w e w' :=
      fun b e w' he hb => ⟨b, he, fun a1 a2 => absurd ⟨a1, a2⟩ HG.out, hb⟩
    by_cases h3 : wrap64 (g * 8) < l
    · go_enter Try.func47, Try.ntmps47
      go_wp2
      refine bodyPost_ret (v := .agg #[.bool true, .int .i64 3]) (by simp [results, Try.results47, go_sem]) rfl (hp true _ _ rfl ?_)
      go_grown
    · by_cases h4 : wrap64 (wrap64 (g * 8) - l) < t
      · go_enter Try.func47, Try.ntmps47
        go_wp2
        refine bodyPost_ret (v := .agg #[.bool true, .int .i64 3]) (by simp [results, Try.results47, go_sem]) rfl (hp true _ _ rfl ?_)
        go_grown
      · go_enter Try.func47, Try.ntmps47
        go_wp2
        refine bodyPost_ret (v := .agg #[.bool false, .int .i64 3]) (by simp [results, Try.results47, go_sem]) rfl (hp false _ _ rfl ?_)
        go_grown
end Go.Proofs.Ytdilhldaipjhoaa.Grow
