/-
  Walks over package growth (layer 8) and its reference, third part: Insert and Remove.
-/
import Derived.Test.YtdilhldaipjhoaaGrowV
namespace Go.Proofs.Ytdilhldaipjhoaa.Grow
open Go.RowKit Kit GrowM

/-- a plan and an error -/
def planV (g : Int) (r : Bool) (e : Int) : Value := .tuple #[.agg #[.int .i64 g, .bool r], .int .i64 e]

section
variable (g l t : Int) (w : World) (g0 : -9223372036854775808 ≤ g) (g1 : g ≤ 9223372036854775807) (l0 : -9223372036854775808 ≤ l) (l1 : l ≤ 9223372036854775807)
include g0 g1 l0 l1

set_option maxHeartbeats 2000000 in
theorem insert_groups (hg : pow2 g = false) :
    Calls Try.prog 32 #[.int .i64 g, .int .i64 l, .int .i64 t] w fun e w' => e = .returned (planV 0 false 2) ∧ Below w.heap.size w w' := by
  have HN := Lib.hid (show (!pow2 g) = true from by rw [hg]; rfl)
  clear hg
  have HL := Lib.hid (nolanes_any g l t)
  go_enter Try.func32, Try.ntmps32
  go_wp2_with fail
  refine (nogroups_any g _).mono ?_
  rintro e w1 ⟨rfl, b1⟩
  have k1_0 : w1.cell? ⟨w.heap.size, 0, none⟩ = some (.int .i64 0) := cell_of b1 (by simp) (by simp [go_sem])
  have k1_1 : w1.cell? ⟨w.heap.size, 1, none⟩ = some (.bool false) := cell_of b1 (by simp) (by simp [go_sem])
  have f1_0 : w1.frozen? ⟨w.heap.size, 0, none⟩ = false := free_of b1 (by simp) (by simp [go_sem])
  have f1_1 : w1.frozen? ⟨w.heap.size, 1, none⟩ = false := free_of b1 (by simp) (by simp [go_sem])
  have y1 : w.heap.size < w1.heap.size := by (have := b1.size); (try simp at this); omega
  rw [HN.out]
  go_wp2_with fail
  refine (HL.out _ g0 g1 l0 l1).mono ?_
  rintro e w2 ⟨b, rfl, _, b2⟩
  have k2_0 : w2.cell? ⟨w.heap.size, 0, none⟩ = some (.int .i64 0) := cell_of b2 (by omega) (k1_0)
  have k2_1 : w2.cell? ⟨w.heap.size, 1, none⟩ = some (.bool false) := cell_of b2 (by omega) (k1_1)
  have f2_0 : w2.frozen? ⟨w.heap.size, 0, none⟩ = false := free_of b2 (by omega) (f1_0)
  have f2_1 : w2.frozen? ⟨w.heap.size, 1, none⟩ = false := free_of b2 (by omega) (f1_1)
  have y2 : w.heap.size < w2.heap.size := by (have := b2.size); (try simp at this); omega
  clear k1_0 k1_1 f1_0 f1_1
  go_wp2_with fail
  refine (first2_any _ true b 2 3 _ (by simp [go_sem]) (by simp [go_sem]) (by simp [go_sem]) (by simp [go_sem]) (by simp)).mono ?_
  rintro e w3 ⟨rfl, b3⟩
  have k3_0 : w3.cell? ⟨w.heap.size, 0, none⟩ = some (.int .i64 0) := cell_of b3 (by simp; omega) (by simp [go_sem, k2_0, y2])
  have k3_1 : w3.cell? ⟨w.heap.size, 1, none⟩ = some (.bool false) := cell_of b3 (by simp; omega) (by simp [go_sem, k2_1, y2])
  have f3_0 : w3.frozen? ⟨w.heap.size, 0, none⟩ = false := free_of b3 (by simp; omega) (by simp [go_sem, f2_0, y2])
  have f3_1 : w3.frozen? ⟨w.heap.size, 1, none⟩ = false := free_of b3 (by simp; omega) (by simp [go_sem, f2_1, y2])
  have y3 : w.heap.size < w3.heap.size := by (have := b3.size); (try simp at this); omega
  clear k2_0 k2_1 f2_0 f2_1
  go_wp2_with fail
  have kr := res2 (a := .int .i64 0) (b := .bool false) k3_0 k3_1
  refine bodyPost_ret (v := planV 0 false 2) (by simp [results, Try.results32, go_sem, planV, kr]) rfl ⟨rfl, ?_⟩
  exact (((tr (tr (tr ((Below.refl _ _).alloc (Nat.le_refl _) _) b1) b2) (tr (by go_grown) b3))).setCell (p := ⟨w.heap.size, 0, none⟩) (Nat.le_refl _) _).setCell (p := ⟨w.heap.size, 1, none⟩) (Nat.le_refl _) _

set_option maxHeartbeats 2000000 in
theorem insert_lanes (hg : pow2 g = true) (hb : badLanes g l t = true) :
    Calls Try.prog 32 #[.int .i64 g, .int .i64 l, .int .i64 t] w fun e w' => e = .returned (planV 0 false 3) ∧ Below w.heap.size w w' := by
  have HN := Lib.hid (show (!pow2 g) = false from by rw [hg]; rfl)
  have HB := Lib.hid hb
  obtain ⟨hg0, hg1⟩ := pow2_range g hg
  clear hg hb
  have HL := Lib.hid (nolanes_any g l t)
  go_enter Try.func32, Try.ntmps32
  go_wp2_with fail
  refine (nogroups_any g _).mono ?_
  rintro e w1 ⟨rfl, b1⟩
  have k1_0 : w1.cell? ⟨w.heap.size, 0, none⟩ = some (.int .i64 0) := cell_of b1 (by simp) (by simp [go_sem])
  have k1_1 : w1.cell? ⟨w.heap.size, 1, none⟩ = some (.bool false) := cell_of b1 (by simp) (by simp [go_sem])
  have f1_0 : w1.frozen? ⟨w.heap.size, 0, none⟩ = false := free_of b1 (by simp) (by simp [go_sem])
  have f1_1 : w1.frozen? ⟨w.heap.size, 1, none⟩ = false := free_of b1 (by simp) (by simp [go_sem])
  have y1 : w.heap.size < w1.heap.size := by (have := b1.size); (try simp at this); omega
  rw [HN.out]
  go_wp2_with fail
  refine (HL.out _ g0 g1 l0 l1).mono ?_
  rintro e w2 ⟨b, rfl, hbb, b2⟩
  obtain rfl : b = true := (hbb hg0 hg1).trans HB.out
  clear hbb
  have k2_0 : w2.cell? ⟨w.heap.size, 0, none⟩ = some (.int .i64 0) := cell_of b2 (by omega) (k1_0)
  have k2_1 : w2.cell? ⟨w.heap.size, 1, none⟩ = some (.bool false) := cell_of b2 (by omega) (k1_1)
  have f2_0 : w2.frozen? ⟨w.heap.size, 0, none⟩ = false := free_of b2 (by omega) (f1_0)
  have f2_1 : w2.frozen? ⟨w.heap.size, 1, none⟩ = false := free_of b2 (by omega) (f1_1)
  have y2 : w.heap.size < w2.heap.size := by (have := b2.size); (try simp at this); omega
  clear k1_0 k1_1 f1_0 f1_1
  go_wp2_with fail
  refine (first2_any _ false true 2 3 _ (by simp [go_sem]) (by simp [go_sem]) (by simp [go_sem]) (by simp [go_sem]) (by simp)).mono ?_
  rintro e w3 ⟨rfl, b3⟩
  have k3_0 : w3.cell? ⟨w.heap.size, 0, none⟩ = some (.int .i64 0) := cell_of b3 (by simp; omega) (by simp [go_sem, k2_0, y2])
  have k3_1 : w3.cell? ⟨w.heap.size, 1, none⟩ = some (.bool false) := cell_of b3 (by simp; omega) (by simp [go_sem, k2_1, y2])
  have f3_0 : w3.frozen? ⟨w.heap.size, 0, none⟩ = false := free_of b3 (by simp; omega) (by simp [go_sem, f2_0, y2])
  have f3_1 : w3.frozen? ⟨w.heap.size, 1, none⟩ = false := free_of b3 (by simp; omega) (by simp [go_sem, f2_1, y2])
  have y3 : w.heap.size < w3.heap.size := by (have := b3.size); (try simp at this); omega
  clear k2_0 k2_1 f2_0 f2_1
  go_wp2_with fail
  have kr := res2 (a := .int .i64 0) (b := .bool false) k3_0 k3_1
  refine bodyPost_ret (v := planV 0 false 3) (by simp [results, Try.results32, go_sem, planV, kr]) rfl ⟨rfl, ?_⟩
  exact (((tr (tr (tr ((Below.refl _ _).alloc (Nat.le_refl _) _) b1) b2) (tr (by go_grown) b3))).setCell (p := ⟨w.heap.size, 0, none⟩) (Nat.le_refl _) _).setCell (p := ⟨w.heap.size, 1, none⟩) (Nat.le_refl _) _

set_option maxHeartbeats 2000000 in
theorem remove_groups (hg : pow2 g = false) :
    Calls Try.prog 34 #[.int .i64 g, .int .i64 l, .int .i64 t] w fun e w' => e = .returned (planV 0 false 2) ∧ Below w.heap.size w w' := by
  have HN := Lib.hid (show (!pow2 g) = true from by rw [hg]; rfl)
  clear hg
  have HL := Lib.hid (nolanes_any g l t)
  go_enter Try.func34, Try.ntmps34
  go_wp2_with fail
  refine (nogroups_any g _).mono ?_
  rintro e w1 ⟨rfl, b1⟩
  have k1_0 : w1.cell? ⟨w.heap.size, 0, none⟩ = some (.int .i64 0) := cell_of b1 (by simp) (by simp [go_sem])
  have k1_1 : w1.cell? ⟨w.heap.size, 1, none⟩ = some (.bool false) := cell_of b1 (by simp) (by simp [go_sem])
  have f1_0 : w1.frozen? ⟨w.heap.size, 0, none⟩ = false := free_of b1 (by simp) (by simp [go_sem])
  have f1_1 : w1.frozen? ⟨w.heap.size, 1, none⟩ = false := free_of b1 (by simp) (by simp [go_sem])
  have y1 : w.heap.size < w1.heap.size := by (have := b1.size); (try simp at this); omega
  rw [HN.out]
  go_wp2_with fail
  refine (HL.out _ g0 g1 l0 l1).mono ?_
  rintro e w2 ⟨b, rfl, _, b2⟩
  have k2_0 : w2.cell? ⟨w.heap.size, 0, none⟩ = some (.int .i64 0) := cell_of b2 (by omega) (k1_0)
  have k2_1 : w2.cell? ⟨w.heap.size, 1, none⟩ = some (.bool false) := cell_of b2 (by omega) (k1_1)
  have f2_0 : w2.frozen? ⟨w.heap.size, 0, none⟩ = false := free_of b2 (by omega) (f1_0)
  have f2_1 : w2.frozen? ⟨w.heap.size, 1, none⟩ = false := free_of b2 (by omega) (f1_1)
  have y2 : w.heap.size < w2.heap.size := by (have := b2.size); (try simp at this); omega
  clear k1_0 k1_1 f1_0 f1_1
  go_wp2_with fail
  refine (first2_any _ true b 2 3 _ (by simp [go_sem]) (by simp [go_sem]) (by simp [go_sem]) (by simp [go_sem]) (by simp)).mono ?_
  rintro e w3 ⟨rfl, b3⟩
  have k3_0 : w3.cell? ⟨w.heap.size, 0, none⟩ = some (.int .i64 0) := cell_of b3 (by simp; omega) (by simp [go_sem, k2_0, y2])
  have k3_1 : w3.cell? ⟨w.heap.size, 1, none⟩ = some (.bool false) := cell_of b3 (by simp; omega) (by simp [go_sem, k2_1, y2])
  have f3_0 : w3.frozen? ⟨w.heap.size, 0, none⟩ = false := free_of b3 (by simp; omega) (by simp [go_sem, f2_0, y2])
  have f3_1 : w3.frozen? ⟨w.heap.size, 1, none⟩ = false := free_of b3 (by simp; omega) (by simp [go_sem, f2_1, y2])
  have y3 : w.heap.size < w3.heap.size := by (have := b3.size); (try simp at this); omega
  clear k2_0 k2_1 f2_0 f2_1
  go_wp2_with fail
  have kr := res2 (a := .int .i64 0) (b := .bool false) k3_0 k3_1
  refine bodyPost_ret (v := planV 0 false 2) (by simp [results, Try.results34, go_sem, planV, kr]) rfl ⟨rfl, ?_⟩
  exact (((tr (tr (tr ((Below.refl _ _).alloc (Nat.le_refl _) _) b1) b2) (tr (by go_grown) b3))).setCell (p := ⟨w.heap.size, 0, none⟩) (Nat.le_refl _) _).setCell (p := ⟨w.heap.size, 1, none⟩) (Nat.le_refl _) _

set_option maxHeartbeats 2000000 in
theorem remove_lanes (hg : pow2 g = true) (hb : badLanes g l t = true) :
    Calls Try.prog 34 #[.int .i64 g, .int .i64 l, .int .i64 t] w fun e w' => e = .returned (planV 0 false 3) ∧ Below w.heap.size w w' := by
  have HN := Lib.hid (show (!pow2 g) = false from by rw [hg]; rfl)
  have HB := Lib.hid hb
  obtain ⟨hg0, hg1⟩ := pow2_range g hg
  clear hg hb
  have HL := Lib.hid (nolanes_any g l t)
  go_enter Try.func34, Try.ntmps34
  go_wp2_with fail
  refine (nogroups_any g _).mono ?_
  rintro e w1 ⟨rfl, b1⟩
  have k1_0 : w1.cell? ⟨w.heap.size, 0, none⟩ = some (.int .i64 0) := cell_of b1 (by simp) (by simp [go_sem])
  have k1_1 : w1.cell? ⟨w.heap.size, 1, none⟩ = some (.bool false) := cell_of b1 (by simp) (by simp [go_sem])
  have f1_0 : w1.frozen? ⟨w.heap.size, 0, none⟩ = false := free_of b1 (by simp) (by simp [go_sem])
  have f1_1 : w1.frozen? ⟨w.heap.size, 1, none⟩ = false := free_of b1 (by simp) (by simp [go_sem])
  have y1 : w.heap.size < w1.heap.size := by (have := b1.size); (try simp at this); omega
  rw [HN.out]
  go_wp2_with fail
  refine (HL.out _ g0 g1 l0 l1).mono ?_
  rintro e w2 ⟨b, rfl, hbb, b2⟩
  obtain rfl : b = true := (hbb hg0 hg1).trans HB.out
  clear hbb
  have k2_0 : w2.cell? ⟨w.heap.size, 0, none⟩ = some (.int .i64 0) := cell_of b2 (by omega) (k1_0)
  have k2_1 : w2.cell? ⟨w.heap.size, 1, none⟩ = some (.bool false) := cell_of b2 (by omega) (k1_1)
  have f2_0 : w2.frozen? ⟨w.heap.size, 0, none⟩ = false := free_of b2 (by omega) (f1_0)
  have f2_1 : w2.frozen? ⟨w.heap.size, 1, none⟩ = false := free_of b2 (by omega) (f1_1)
  have y2 : w.heap.size < w2.heap.size := by (have := b2.size); (try simp at this); omega
  clear k1_0 k1_1 f1_0 f1_1
  go_wp2_with fail
  refine (first2_any _ false true 2 3 _ (by simp [go_sem]) (by simp [go_sem]) (by simp [go_sem]) (by simp [go_sem]) (by simp)).mono ?_
  rintro e w3 ⟨rfl, b3⟩
  have k3_0 : w3.cell? ⟨w.heap.size, 0, none⟩ = some (.int .i64 0) := cell_of b3 (by simp; omega) (by simp [go_sem, k2_0, y2])
  have k3_1 : w3.cell? ⟨w.heap.size, 1, none⟩ = some (.bool false) := cell_of b3 (by simp; omega) (by simp [go_sem, k2_1, y2])
  have f3_0 : w3.frozen? ⟨w.heap.size, 0, none⟩ = false := free_of b3 (by simp; omega) (by simp [go_sem, f2_0, y2])
  have f3_1 : w3.frozen? ⟨w.heap.size, 1, none⟩ = false := free_of b3 (by simp; omega) (by simp [go_sem, f2_1, y2])
  have y3 : w.heap.size < w3.heap.size := by (have := b3.size); (try simp at this); omega
  clear k2_0 k2_1 f2_0 f2_1
  go_wp2_with fail
  have kr := res2 (a := .int .i64 0) (b := .bool false) k3_0 k3_1
  refine bodyPost_ret (v := planV 0 false 3) (by simp [results, Try.results34, go_sem, planV, kr]) rfl ⟨rfl, ?_⟩
  exact (((tr (tr (tr ((Below.refl _ _).alloc (Nat.le_refl _) _) b1) b2) (tr (by go_grown) b3))).setCell (p := ⟨w.heap.size, 0, none⟩) (Nat.le_refl _) _).setCell (p := ⟨w.heap.size, 1, none⟩) (Nat.le_refl _) _

set_option maxHeartbeats 2000000 in
theorem insert_room_true (hg : pow2 g = true) (hb : badLanes g l t = false) (hr : l + t < 7 * g) (hm : pow2 (2 * g) = true) :
    Calls Try.prog 32 #[.int .i64 g, .int .i64 l, .int .i64 t] w fun e w' => e = .returned (planV g false 0) ∧ Below w.heap.size w w' := by
  have HM := Lib.hid hm
  clear hm
  have HN := Lib.hid (show (!pow2 g) = false from by rw [hg]; rfl)
  have HB := Lib.hid hb
  obtain ⟨hg0, hg1⟩ := pow2_range g hg
  obtain ⟨hl0, ht0, hl8, ht8⟩ := (lanes_good g l t).1 hb
  clear hg hb
  have HL := Lib.hid (nolanes_any g l t)
  go_enter Try.func32, Try.ntmps32
  go_wp2_with fail
  refine (nogroups_any g _).mono ?_
  rintro e w1 ⟨rfl, b1⟩
  have k1_0 : w1.cell? ⟨w.heap.size, 0, none⟩ = some (.int .i64 0) := cell_of b1 (by simp) (by simp [go_sem])
  have k1_1 : w1.cell? ⟨w.heap.size, 1, none⟩ = some (.bool false) := cell_of b1 (by simp) (by simp [go_sem])
  have f1_0 : w1.frozen? ⟨w.heap.size, 0, none⟩ = false := free_of b1 (by simp) (by simp [go_sem])
  have f1_1 : w1.frozen? ⟨w.heap.size, 1, none⟩ = false := free_of b1 (by simp) (by simp [go_sem])
  have y1 : w.heap.size < w1.heap.size := by (have := b1.size); (try simp at this); omega
  rw [HN.out]
  go_wp2_with fail
  refine (HL.out _ g0 g1 l0 l1).mono ?_
  rintro e w2 ⟨b, rfl, hbb, b2⟩
  obtain rfl : b = false := (hbb hg0 hg1).trans HB.out
  clear hbb
  have k2_0 : w2.cell? ⟨w.heap.size, 0, none⟩ = some (.int .i64 0) := cell_of b2 (by omega) (k1_0)
  have k2_1 : w2.cell? ⟨w.heap.size, 1, none⟩ = some (.bool false) := cell_of b2 (by omega) (k1_1)
  have f2_0 : w2.frozen? ⟨w.heap.size, 0, none⟩ = false := free_of b2 (by omega) (f1_0)
  have f2_1 : w2.frozen? ⟨w.heap.size, 1, none⟩ = false := free_of b2 (by omega) (f1_1)
  have y2 : w.heap.size < w2.heap.size := by (have := b2.size); (try simp at this); omega
  clear k1_0 k1_1 f1_0 f1_1
  go_wp2_with fail
  refine (first2_any _ false false 2 3 _ (by simp [go_sem]) (by simp [go_sem]) (by simp [go_sem]) (by simp [go_sem]) (by simp)).mono ?_
  rintro e w3 ⟨rfl, b3⟩
  have k3_0 : w3.cell? ⟨w.heap.size, 0, none⟩ = some (.int .i64 0) := cell_of b3 (by simp; omega) (by simp [go_sem, k2_0, y2])
  have k3_1 : w3.cell? ⟨w.heap.size, 1, none⟩ = some (.bool false) := cell_of b3 (by simp; omega) (by simp [go_sem, k2_1, y2])
  have f3_0 : w3.frozen? ⟨w.heap.size, 0, none⟩ = false := free_of b3 (by simp; omega) (by simp [go_sem, f2_0, y2])
  have f3_1 : w3.frozen? ⟨w.heap.size, 1, none⟩ = false := free_of b3 (by simp; omega) (by simp [go_sem, f2_1, y2])
  have y3 : w.heap.size < w3.heap.size := by (have := b3.size); (try simp at this); omega
  clear k2_0 k2_1 f2_0 f2_1
  go_wp2_with fail
  refine (valid_any (2 * g) _).mono ?_
  rintro e w4 ⟨rfl, rfl⟩
  rw [HM.out]
  go_wp2_with fail
  refine (first1_any _ false 7 _ (by simp [go_sem]; try omega) (by simp [go_sem])).mono ?_
  rintro e w4 ⟨rfl, b4⟩
  have k4_0 : w4.cell? ⟨w.heap.size, 0, none⟩ = some (.int .i64 0) := cell_of b4 (by simp; omega) (by simp [go_sem, k3_0, y3])
  have k4_1 : w4.cell? ⟨w.heap.size, 1, none⟩ = some (.bool false) := cell_of b4 (by simp; omega) (by simp [go_sem, k3_1, y3])
  have f4_0 : w4.frozen? ⟨w.heap.size, 0, none⟩ = false := free_of b4 (by simp; omega) (by simp [go_sem, f3_0, y3])
  have f4_1 : w4.frozen? ⟨w.heap.size, 1, none⟩ = false := free_of b4 (by simp; omega) (by simp [go_sem, f3_1, y3])
  have y4 : w.heap.size < w4.heap.size := by (have := b4.size); (try simp at this); omega
  clear k3_0 k3_1 f3_0 f3_1
  go_wp2_with fail
  have kr := res2 (a := .int .i64 g) (b := .bool false) k4_0 k4_1
  refine bodyPost_ret (v := planV g false 0) (by simp [results, Try.results32, go_sem, planV, kr, y4]; try omega) rfl ⟨rfl, ?_⟩
  exact ((((tr (tr (tr (tr ((Below.refl _ _).alloc (Nat.le_refl _) _) b1) b2) (tr (by go_grown) b3)) (tr (by go_grown) b4))).setCell (p := ⟨w.heap.size, 0, none⟩) (Nat.le_refl _) _).setCell (p := ⟨w.heap.size, 1, none⟩) (Nat.le_refl _) _).alloc (by simp; omega) _

set_option maxHeartbeats 2000000 in
theorem insert_half_true (hg : pow2 g = true) (hb : badLanes g l t = false) (hr : 7 * g ≤ l + t) (hh : 2 * l ≤ 7 * g) (hm : pow2 (2 * g) = true) :
    Calls Try.prog 32 #[.int .i64 g, .int .i64 l, .int .i64 t] w fun e w' => e = .returned (planV g true 0) ∧ Below w.heap.size w w' := by
  have HM := Lib.hid hm
  clear hm
  have HN := Lib.hid (show (!pow2 g) = false from by rw [hg]; rfl)
  have HB := Lib.hid hb
  obtain ⟨hg0, hg1⟩ := pow2_range g hg
  obtain ⟨hl0, ht0, hl8, ht8⟩ := (lanes_good g l t).1 hb
  clear hg hb
  have HL := Lib.hid (nolanes_any g l t)
  go_enter Try.func32, Try.ntmps32
  go_wp2_with fail
  refine (nogroups_any g _).mono ?_
  rintro e w1 ⟨rfl, b1⟩
  have k1_0 : w1.cell? ⟨w.heap.size, 0, none⟩ = some (.int .i64 0) := cell_of b1 (by simp) (by simp [go_sem])
  have k1_1 : w1.cell? ⟨w.heap.size, 1, none⟩ = some (.bool false) := cell_of b1 (by simp) (by simp [go_sem])
  have f1_0 : w1.frozen? ⟨w.heap.size, 0, none⟩ = false := free_of b1 (by simp) (by simp [go_sem])
  have f1_1 : w1.frozen? ⟨w.heap.size, 1, none⟩ = false := free_of b1 (by simp) (by simp [go_sem])
  have y1 : w.heap.size < w1.heap.size := by (have := b1.size); (try simp at this); omega
  rw [HN.out]
  go_wp2_with fail
  refine (HL.out _ g0 g1 l0 l1).mono ?_
  rintro e w2 ⟨b, rfl, hbb, b2⟩
  obtain rfl : b = false := (hbb hg0 hg1).trans HB.out
  clear hbb
  have k2_0 : w2.cell? ⟨w.heap.size, 0, none⟩ = some (.int .i64 0) := cell_of b2 (by omega) (k1_0)
  have k2_1 : w2.cell? ⟨w.heap.size, 1, none⟩ = some (.bool false) := cell_of b2 (by omega) (k1_1)
  have f2_0 : w2.frozen? ⟨w.heap.size, 0, none⟩ = false := free_of b2 (by omega) (f1_0)
  have f2_1 : w2.frozen? ⟨w.heap.size, 1, none⟩ = false := free_of b2 (by omega) (f1_1)
  have y2 : w.heap.size < w2.heap.size := by (have := b2.size); (try simp at this); omega
  clear k1_0 k1_1 f1_0 f1_1
  go_wp2_with fail
  refine (first2_any _ false false 2 3 _ (by simp [go_sem]) (by simp [go_sem]) (by simp [go_sem]) (by simp [go_sem]) (by simp)).mono ?_
  rintro e w3 ⟨rfl, b3⟩
  have k3_0 : w3.cell? ⟨w.heap.size, 0, none⟩ = some (.int .i64 0) := cell_of b3 (by simp; omega) (by simp [go_sem, k2_0, y2])
  have k3_1 : w3.cell? ⟨w.heap.size, 1, none⟩ = some (.bool false) := cell_of b3 (by simp; omega) (by simp [go_sem, k2_1, y2])
  have f3_0 : w3.frozen? ⟨w.heap.size, 0, none⟩ = false := free_of b3 (by simp; omega) (by simp [go_sem, f2_0, y2])
  have f3_1 : w3.frozen? ⟨w.heap.size, 1, none⟩ = false := free_of b3 (by simp; omega) (by simp [go_sem, f2_1, y2])
  have y3 : w.heap.size < w3.heap.size := by (have := b3.size); (try simp at this); omega
  clear k2_0 k2_1 f2_0 f2_1
  go_wp2_with fail
  refine (valid_any (2 * g) _).mono ?_
  rintro e w4 ⟨rfl, rfl⟩
  rw [HM.out]
  go_wp2_with fail
  refine (first1_any _ false 7 _ (by simp [go_sem]; try omega) (by simp [go_sem])).mono ?_
  rintro e w4 ⟨rfl, b4⟩
  have k4_0 : w4.cell? ⟨w.heap.size, 0, none⟩ = some (.int .i64 0) := cell_of b4 (by simp; omega) (by simp [go_sem, k3_0, y3])
  have k4_1 : w4.cell? ⟨w.heap.size, 1, none⟩ = some (.bool false) := cell_of b4 (by simp; omega) (by simp [go_sem, k3_1, y3])
  have f4_0 : w4.frozen? ⟨w.heap.size, 0, none⟩ = false := free_of b4 (by simp; omega) (by simp [go_sem, f3_0, y3])
  have f4_1 : w4.frozen? ⟨w.heap.size, 1, none⟩ = false := free_of b4 (by simp; omega) (by simp [go_sem, f3_1, y3])
  have y4 : w.heap.size < w4.heap.size := by (have := b4.size); (try simp at this); omega
  clear k3_0 k3_1 f3_0 f3_1
  go_wp2_with fail
  have kr := res2 (a := .int .i64 g) (b := .bool true) k4_0 k4_1
  refine bodyPost_ret (v := planV g true 0) (by simp [results, Try.results32, go_sem, planV, kr, y4]; try omega) rfl ⟨rfl, ?_⟩
  exact ((((tr (tr (tr (tr ((Below.refl _ _).alloc (Nat.le_refl _) _) b1) b2) (tr (by go_grown) b3)) (tr (by go_grown) b4))).setCell (p := ⟨w.heap.size, 0, none⟩) (Nat.le_refl _) _).setCell (p := ⟨w.heap.size, 1, none⟩) (Nat.le_refl _) _).alloc (by simp; omega) _

set_option maxHeartbeats 2000000 in
theorem insert_room_false (hg : pow2 g = true) (hb : badLanes g l t = false) (hr : l + t < 7 * g) (hm : pow2 (2 * g) = false) :
    Calls Try.prog 32 #[.int .i64 g, .int .i64 l, .int .i64 t] w fun e w' => e = .returned (planV g false 0) ∧ Below w.heap.size w w' := by
  have HM := Lib.hid hm
  clear hm
  have HN := Lib.hid (show (!pow2 g) = false from by rw [hg]; rfl)
  have HB := Lib.hid hb
  obtain ⟨hg0, hg1⟩ := pow2_range g hg
  obtain ⟨hl0, ht0, hl8, ht8⟩ := (lanes_good g l t).1 hb
  clear hg hb
  have HL := Lib.hid (nolanes_any g l t)
  go_enter Try.func32, Try.ntmps32
  go_wp2_with fail
  refine (nogroups_any g _).mono ?_
  rintro e w1 ⟨rfl, b1⟩
  have k1_0 : w1.cell? ⟨w.heap.size, 0, none⟩ = some (.int .i64 0) := cell_of b1 (by simp) (by simp [go_sem])
  have k1_1 : w1.cell? ⟨w.heap.size, 1, none⟩ = some (.bool false) := cell_of b1 (by simp) (by simp [go_sem])
  have f1_0 : w1.frozen? ⟨w.heap.size, 0, none⟩ = false := free_of b1 (by simp) (by simp [go_sem])
  have f1_1 : w1.frozen? ⟨w.heap.size, 1, none⟩ = false := free_of b1 (by simp) (by simp [go_sem])
  have y1 : w.heap.size < w1.heap.size := by (have := b1.size); (try simp at this); omega
  rw [HN.out]
  go_wp2_with fail
  refine (HL.out _ g0 g1 l0 l1).mono ?_
  rintro e w2 ⟨b, rfl, hbb, b2⟩
  obtain rfl : b = false := (hbb hg0 hg1).trans HB.out
  clear hbb
  have k2_0 : w2.cell? ⟨w.heap.size, 0, none⟩ = some (.int .i64 0) := cell_of b2 (by omega) (k1_0)
  have k2_1 : w2.cell? ⟨w.heap.size, 1, none⟩ = some (.bool false) := cell_of b2 (by omega) (k1_1)
  have f2_0 : w2.frozen? ⟨w.heap.size, 0, none⟩ = false := free_of b2 (by omega) (f1_0)
  have f2_1 : w2.frozen? ⟨w.heap.size, 1, none⟩ = false := free_of b2 (by omega) (f1_1)
  have y2 : w.heap.size < w2.heap.size := by (have := b2.size); (try simp at this); omega
  clear k1_0 k1_1 f1_0 f1_1
  go_wp2_with fail
  refine (first2_any _ false false 2 3 _ (by simp [go_sem]) (by simp [go_sem]) (by simp [go_sem]) (by simp [go_sem]) (by simp)).mono ?_
  rintro e w3 ⟨rfl, b3⟩
  have k3_0 : w3.cell? ⟨w.heap.size, 0, none⟩ = some (.int .i64 0) := cell_of b3 (by simp; omega) (by simp [go_sem, k2_0, y2])
  have k3_1 : w3.cell? ⟨w.heap.size, 1, none⟩ = some (.bool false) := cell_of b3 (by simp; omega) (by simp [go_sem, k2_1, y2])
  have f3_0 : w3.frozen? ⟨w.heap.size, 0, none⟩ = false := free_of b3 (by simp; omega) (by simp [go_sem, f2_0, y2])
  have f3_1 : w3.frozen? ⟨w.heap.size, 1, none⟩ = false := free_of b3 (by simp; omega) (by simp [go_sem, f2_1, y2])
  have y3 : w.heap.size < w3.heap.size := by (have := b3.size); (try simp at this); omega
  clear k2_0 k2_1 f2_0 f2_1
  go_wp2_with fail
  refine (valid_any (2 * g) _).mono ?_
  rintro e w4 ⟨rfl, rfl⟩
  rw [HM.out]
  go_wp2_with fail
  refine (first1_any _ false 7 _ (by simp [go_sem]; try omega) (by simp [go_sem])).mono ?_
  rintro e w4 ⟨rfl, b4⟩
  have k4_0 : w4.cell? ⟨w.heap.size, 0, none⟩ = some (.int .i64 0) := cell_of b4 (by simp; omega) (by simp [go_sem, k3_0, y3])
  have k4_1 : w4.cell? ⟨w.heap.size, 1, none⟩ = some (.bool false) := cell_of b4 (by simp; omega) (by simp [go_sem, k3_1, y3])
  have f4_0 : w4.frozen? ⟨w.heap.size, 0, none⟩ = false := free_of b4 (by simp; omega) (by simp [go_sem, f3_0, y3])
  have f4_1 : w4.frozen? ⟨w.heap.size, 1, none⟩ = false := free_of b4 (by simp; omega) (by simp [go_sem, f3_1, y3])
  have y4 : w.heap.size < w4.heap.size := by (have := b4.size); (try simp at this); omega
  clear k3_0 k3_1 f3_0 f3_1
  go_wp2_with fail
  have kr := res2 (a := .int .i64 g) (b := .bool false) k4_0 k4_1
  refine bodyPost_ret (v := planV g false 0) (by simp [results, Try.results32, go_sem, planV, kr, y4]; try omega) rfl ⟨rfl, ?_⟩
  exact ((((tr (tr (tr (tr ((Below.refl _ _).alloc (Nat.le_refl _) _) b1) b2) (tr (by go_grown) b3)) (tr (by go_grown) b4))).setCell (p := ⟨w.heap.size, 0, none⟩) (Nat.le_refl _) _).setCell (p := ⟨w.heap.size, 1, none⟩) (Nat.le_refl _) _).alloc (by simp; omega) _

set_option maxHeartbeats 2000000 in
theorem insert_half_false (hg : pow2 g = true) (hb : badLanes g l t = false) (hr : 7 * g ≤ l + t) (hh : 2 * l ≤ 7 * g) (hm : pow2 (2 * g) = false) :
    Calls Try.prog 32 #[.int .i64 g, .int .i64 l, .int .i64 t] w fun e w' => e = .returned (planV g true 0) ∧ Below w.heap.size w w' := by
  have HM := Lib.hid hm
  clear hm
  have HN := Lib.hid (show (!pow2 g) = false from by rw [hg]; rfl)
  have HB := Lib.hid hb
  obtain ⟨hg0, hg1⟩ := pow2_range g hg
  obtain ⟨hl0, ht0, hl8, ht8⟩ := (lanes_good g l t).1 hb
  clear hg hb
  have HL := Lib.hid (nolanes_any g l t)
  go_enter Try.func32, Try.ntmps32
  go_wp2_with fail
  refine (nogroups_any g _).mono ?_
  rintro e w1 ⟨rfl, b1⟩
  have k1_0 : w1.cell? ⟨w.heap.size, 0, none⟩ = some (.int .i64 0) := cell_of b1 (by simp) (by simp [go_sem])
  have k1_1 : w1.cell? ⟨w.heap.size, 1, none⟩ = some (.bool false) := cell_of b1 (by simp) (by simp [go_sem])
  have f1_0 : w1.frozen? ⟨w.heap.size, 0, none⟩ = false := free_of b1 (by simp) (by simp [go_sem])
  have f1_1 : w1.frozen? ⟨w.heap.size, 1, none⟩ = false := free_of b1 (by simp) (by simp [go_sem])
  have y1 : w.heap.size < w1.heap.size := by (have := b1.size); (try simp at this); omega
  rw [HN.out]
  go_wp2_with fail
  refine (HL.out _ g0 g1 l0 l1).mono ?_
  rintro e w2 ⟨b, rfl, hbb, b2⟩
  obtain rfl : b = false := (hbb hg0 hg1).trans HB.out
  clear hbb
  have k2_0 : w2.cell? ⟨w.heap.size, 0, none⟩ = some (.int .i64 0) := cell_of b2 (by omega) (k1_0)
  have k2_1 : w2.cell? ⟨w.heap.size, 1, none⟩ = some (.bool false) := cell_of b2 (by omega) (k1_1)
  have f2_0 : w2.frozen? ⟨w.heap.size, 0, none⟩ = false := free_of b2 (by omega) (f1_0)
  have f2_1 : w2.frozen? ⟨w.heap.size, 1, none⟩ = false := free_of b2 (by omega) (f1_1)
  have y2 : w.heap.size < w2.heap.size := by (have := b2.size); (try simp at this); omega
  clear k1_0 k1_1 f1_0 f1_1
  go_wp2_with fail
  refine (first2_any _ false false 2 3 _ (by simp [go_sem]) (by simp [go_sem]) (by simp [go_sem]) (by simp [go_sem]) (by simp)).mono ?_
  rintro e w3 ⟨rfl, b3⟩
  have k3_0 : w3.cell? ⟨w.heap.size, 0, none⟩ = some (.int .i64 0) := cell_of b3 (by simp; omega) (by simp [go_sem, k2_0, y2])
  have k3_1 : w3.cell? ⟨w.heap.size, 1, none⟩ = some (.bool false) := cell_of b3 (by simp; omega) (by simp [go_sem, k2_1, y2])
  have f3_0 : w3.frozen? ⟨w.heap.size, 0, none⟩ = false := free_of b3 (by simp; omega) (by simp [go_sem, f2_0, y2])
  have f3_1 : w3.frozen? ⟨w.heap.size, 1, none⟩ = false := free_of b3 (by simp; omega) (by simp [go_sem, f2_1, y2])
  have y3 : w.heap.size < w3.heap.size := by (have := b3.size); (try simp at this); omega
  clear k2_0 k2_1 f2_0 f2_1
  go_wp2_with fail
  refine (valid_any (2 * g) _).mono ?_
  rintro e w4 ⟨rfl, rfl⟩
  rw [HM.out]
  go_wp2_with fail
  refine (first1_any _ false 7 _ (by simp [go_sem]; try omega) (by simp [go_sem])).mono ?_
  rintro e w4 ⟨rfl, b4⟩
  have k4_0 : w4.cell? ⟨w.heap.size, 0, none⟩ = some (.int .i64 0) := cell_of b4 (by simp; omega) (by simp [go_sem, k3_0, y3])
  have k4_1 : w4.cell? ⟨w.heap.size, 1, none⟩ = some (.bool false) := cell_of b4 (by simp; omega) (by simp [go_sem, k3_1, y3])
  have f4_0 : w4.frozen? ⟨w.heap.size, 0, none⟩ = false := free_of b4 (by simp; omega) (by simp [go_sem, f3_0, y3])
  have f4_1 : w4.frozen? ⟨w.heap.size, 1, none⟩ = false := free_of b4 (by simp; omega) (by simp [go_sem, f3_1, y3])
  have y4 : w.heap.size < w4.heap.size := by (have := b4.size); (try simp at this); omega
  clear k3_0 k3_1 f3_0 f3_1
  go_wp2_with fail
  have kr := res2 (a := .int .i64 g) (b := .bool true) k4_0 k4_1
  refine bodyPost_ret (v := planV g true 0) (by simp [results, Try.results32, go_sem, planV, kr, y4]; try omega) rfl ⟨rfl, ?_⟩
  exact ((((tr (tr (tr (tr ((Below.refl _ _).alloc (Nat.le_refl _) _) b1) b2) (tr (by go_grown) b3)) (tr (by go_grown) b4))).setCell (p := ⟨w.heap.size, 0, none⟩) (Nat.le_refl _) _).setCell (p := ⟨w.heap.size, 1, none⟩) (Nat.le_refl _) _).alloc (by simp; omega) _

set_option maxHeartbeats 2000000 in
theorem insert_more (hg : pow2 g = true) (hb : badLanes g l t = false) (hr : 7 * g ≤ l + t) (hh : 7 * g < 2 * l) (hm : pow2 (2 * g) = true) :
    Calls Try.prog 32 #[.int .i64 g, .int .i64 l, .int .i64 t] w fun e w' => e = .returned (planV (2 * g) true 0) ∧ Below w.heap.size w w' := by
  have HM := Lib.hid hm
  clear hm
  have HN := Lib.hid (show (!pow2 g) = false from by rw [hg]; rfl)
  have HB := Lib.hid hb
  obtain ⟨hg0, hg1⟩ := pow2_range g hg
  obtain ⟨hl0, ht0, hl8, ht8⟩ := (lanes_good g l t).1 hb
  clear hg hb
  have HL := Lib.hid (nolanes_any g l t)
  go_enter Try.func32, Try.ntmps32
  go_wp2_with fail
  refine (nogroups_any g _).mono ?_
  rintro e w1 ⟨rfl, b1⟩
  have k1_0 : w1.cell? ⟨w.heap.size, 0, none⟩ = some (.int .i64 0) := cell_of b1 (by simp) (by simp [go_sem])
  have k1_1 : w1.cell? ⟨w.heap.size, 1, none⟩ = some (.bool false) := cell_of b1 (by simp) (by simp [go_sem])
  have f1_0 : w1.frozen? ⟨w.heap.size, 0, none⟩ = false := free_of b1 (by simp) (by simp [go_sem])
  have f1_1 : w1.frozen? ⟨w.heap.size, 1, none⟩ = false := free_of b1 (by simp) (by simp [go_sem])
  have y1 : w.heap.size < w1.heap.size := by (have := b1.size); (try simp at this); omega
  rw [HN.out]
  go_wp2_with fail
  refine (HL.out _ g0 g1 l0 l1).mono ?_
  rintro e w2 ⟨b, rfl, hbb, b2⟩
  obtain rfl : b = false := (hbb hg0 hg1).trans HB.out
  clear hbb
  have k2_0 : w2.cell? ⟨w.heap.size, 0, none⟩ = some (.int .i64 0) := cell_of b2 (by omega) (k1_0)
  have k2_1 : w2.cell? ⟨w.heap.size, 1, none⟩ = some (.bool false) := cell_of b2 (by omega) (k1_1)
  have f2_0 : w2.frozen? ⟨w.heap.size, 0, none⟩ = false := free_of b2 (by omega) (f1_0)
  have f2_1 : w2.frozen? ⟨w.heap.size, 1, none⟩ = false := free_of b2 (by omega) (f1_1)
  have y2 : w.heap.size < w2.heap.size := by (have := b2.size); (try simp at this); omega
  clear k1_0 k1_1 f1_0 f1_1
  go_wp2_with fail
  refine (first2_any _ false false 2 3 _ (by simp [go_sem]) (by simp [go_sem]) (by simp [go_sem]) (by simp [go_sem]) (by simp)).mono ?_
  rintro e w3 ⟨rfl, b3⟩
  have k3_0 : w3.cell? ⟨w.heap.size, 0, none⟩ = some (.int .i64 0) := cell_of b3 (by simp; omega) (by simp [go_sem, k2_0, y2])
  have k3_1 : w3.cell? ⟨w.heap.size, 1, none⟩ = some (.bool false) := cell_of b3 (by simp; omega) (by simp [go_sem, k2_1, y2])
  have f3_0 : w3.frozen? ⟨w.heap.size, 0, none⟩ = false := free_of b3 (by simp; omega) (by simp [go_sem, f2_0, y2])
  have f3_1 : w3.frozen? ⟨w.heap.size, 1, none⟩ = false := free_of b3 (by simp; omega) (by simp [go_sem, f2_1, y2])
  have y3 : w.heap.size < w3.heap.size := by (have := b3.size); (try simp at this); omega
  clear k2_0 k2_1 f2_0 f2_1
  go_wp2_with fail
  refine (valid_any (2 * g) _).mono ?_
  rintro e w4 ⟨rfl, rfl⟩
  rw [HM.out]
  go_wp2_with fail
  refine (first1_any _ false 7 _ (by simp [go_sem]; try omega) (by simp [go_sem])).mono ?_
  rintro e w4 ⟨rfl, b4⟩
  have k4_0 : w4.cell? ⟨w.heap.size, 0, none⟩ = some (.int .i64 0) := cell_of b4 (by simp; omega) (by simp [go_sem, k3_0, y3])
  have k4_1 : w4.cell? ⟨w.heap.size, 1, none⟩ = some (.bool false) := cell_of b4 (by simp; omega) (by simp [go_sem, k3_1, y3])
  have f4_0 : w4.frozen? ⟨w.heap.size, 0, none⟩ = false := free_of b4 (by simp; omega) (by simp [go_sem, f3_0, y3])
  have f4_1 : w4.frozen? ⟨w.heap.size, 1, none⟩ = false := free_of b4 (by simp; omega) (by simp [go_sem, f3_1, y3])
  have y4 : w.heap.size < w4.heap.size := by (have := b4.size); (try simp at this); omega
  clear k3_0 k3_1 f3_0 f3_1
  go_wp2_with fail
  have kr := res2 (a := .int .i64 (g * 2)) (b := .bool true) k4_0 k4_1
  refine bodyPost_ret (v := planV (2 * g) true 0) (by simp [results, Try.results32, go_sem, planV, kr, y4]; try omega) rfl ⟨rfl, ?_⟩
  exact ((((tr (tr (tr (tr ((Below.refl _ _).alloc (Nat.le_refl _) _) b1) b2) (tr (by go_grown) b3)) (tr (by go_grown) b4))).setCell (p := ⟨w.heap.size, 0, none⟩) (Nat.le_refl _) _).setCell (p := ⟨w.heap.size, 1, none⟩) (Nat.le_refl _) _).alloc (by simp; omega) _

set_option maxHeartbeats 2000000 in
theorem insert_last (hg : pow2 g = true) (hb : badLanes g l t = false) (hr : 7 * g ≤ l + t) (hh : 7 * g < 2 * l) (hm : pow2 (2 * g) = false) (hl : l < 7 * g) :
    Calls Try.prog 32 #[.int .i64 g, .int .i64 l, .int .i64 t] w fun e w' => e = .returned (planV g true 0) ∧ Below w.heap.size w w' := by
  have HM := Lib.hid hm
  clear hm
  have HN := Lib.hid (show (!pow2 g) = false from by rw [hg]; rfl)
  have HB := Lib.hid hb
  obtain ⟨hg0, hg1⟩ := pow2_range g hg
  obtain ⟨hl0, ht0, hl8, ht8⟩ := (lanes_good g l t).1 hb
  clear hg hb
  have HL := Lib.hid (nolanes_any g l t)
  go_enter Try.func32, Try.ntmps32
  go_wp2_with fail
  refine (nogroups_any g _).mono ?_
  rintro e w1 ⟨rfl, b1⟩
  have k1_0 : w1.cell? ⟨w.heap.size, 0, none⟩ = some (.int .i64 0) := cell_of b1 (by simp) (by simp [go_sem])
  have k1_1 : w1.cell? ⟨w.heap.size, 1, none⟩ = some (.bool false) := cell_of b1 (by simp) (by simp [go_sem])
  have f1_0 : w1.frozen? ⟨w.heap.size, 0, none⟩ = false := free_of b1 (by simp) (by simp [go_sem])
  have f1_1 : w1.frozen? ⟨w.heap.size, 1, none⟩ = false := free_of b1 (by simp) (by simp [go_sem])
  have y1 : w.heap.size < w1.heap.size := by (have := b1.size); (try simp at this); omega
  rw [HN.out]
  go_wp2_with fail
  refine (HL.out _ g0 g1 l0 l1).mono ?_
  rintro e w2 ⟨b, rfl, hbb, b2⟩
  obtain rfl : b = false := (hbb hg0 hg1).trans HB.out
  clear hbb
  have k2_0 : w2.cell? ⟨w.heap.size, 0, none⟩ = some (.int .i64 0) := cell_of b2 (by omega) (k1_0)
  have k2_1 : w2.cell? ⟨w.heap.size, 1, none⟩ = some (.bool false) := cell_of b2 (by omega) (k1_1)
  have f2_0 : w2.frozen? ⟨w.heap.size, 0, none⟩ = false := free_of b2 (by omega) (f1_0)
  have f2_1 : w2.frozen? ⟨w.heap.size, 1, none⟩ = false := free_of b2 (by omega) (f1_1)
  have y2 : w.heap.size < w2.heap.size := by (have := b2.size); (try simp at this); omega
  clear k1_0 k1_1 f1_0 f1_1
  go_wp2_with fail
  refine (first2_any _ false false 2 3 _ (by simp [go_sem]) (by simp [go_sem]) (by simp [go_sem]) (by simp [go_sem]) (by simp)).mono ?_
  rintro e w3 ⟨rfl, b3⟩
  have k3_0 : w3.cell? ⟨w.heap.size, 0, none⟩ = some (.int .i64 0) := cell_of b3 (by simp; omega) (by simp [go_sem, k2_0, y2])
  have k3_1 : w3.cell? ⟨w.heap.size, 1, none⟩ = some (.bool false) := cell_of b3 (by simp; omega) (by simp [go_sem, k2_1, y2])
  have f3_0 : w3.frozen? ⟨w.heap.size, 0, none⟩ = false := free_of b3 (by simp; omega) (by simp [go_sem, f2_0, y2])
  have f3_1 : w3.frozen? ⟨w.heap.size, 1, none⟩ = false := free_of b3 (by simp; omega) (by simp [go_sem, f2_1, y2])
  have y3 : w.heap.size < w3.heap.size := by (have := b3.size); (try simp at this); omega
  clear k2_0 k2_1 f2_0 f2_1
  go_wp2_with fail
  refine (valid_any (2 * g) _).mono ?_
  rintro e w4 ⟨rfl, rfl⟩
  rw [HM.out]
  go_wp2_with fail
  refine (first1_any _ false 7 _ (by simp [go_sem]; try omega) (by simp [go_sem])).mono ?_
  rintro e w4 ⟨rfl, b4⟩
  have k4_0 : w4.cell? ⟨w.heap.size, 0, none⟩ = some (.int .i64 0) := cell_of b4 (by simp; omega) (by simp [go_sem, k3_0, y3])
  have k4_1 : w4.cell? ⟨w.heap.size, 1, none⟩ = some (.bool false) := cell_of b4 (by simp; omega) (by simp [go_sem, k3_1, y3])
  have f4_0 : w4.frozen? ⟨w.heap.size, 0, none⟩ = false := free_of b4 (by simp; omega) (by simp [go_sem, f3_0, y3])
  have f4_1 : w4.frozen? ⟨w.heap.size, 1, none⟩ = false := free_of b4 (by simp; omega) (by simp [go_sem, f3_1, y3])
  have y4 : w.heap.size < w4.heap.size := by (have := b4.size); (try simp at this); omega
  clear k3_0 k3_1 f3_0 f3_1
  go_wp2_with fail
  have kr := res2 (a := .int .i64 g) (b := .bool true) k4_0 k4_1
  refine bodyPost_ret (v := planV g true 0) (by simp [results, Try.results32, go_sem, planV, kr, y4]; try omega) rfl ⟨rfl, ?_⟩
  exact ((((tr (tr (tr (tr ((Below.refl _ _).alloc (Nat.le_refl _) _) b1) b2) (tr (by go_grown) b3)) (tr (by go_grown) b4))).setCell (p := ⟨w.heap.size, 0, none⟩) (Nat.le_refl _) _).setCell (p := ⟨w.heap.size, 1, none⟩) (Nat.le_refl _) _).alloc (by simp; omega) _

set_option maxHeartbeats 2000000 in
theorem insert_full (hg : pow2 g = true) (hb : badLanes g l t = false) (_hr : 7 * g ≤ l + t) (_hh : 7 * g < 2 * l) (hm : pow2 (2 * g) = false) (hl : 7 * g ≤ l) :
    Calls Try.prog 32 #[.int .i64 g, .int .i64 l, .int .i64 t] w fun e w' => e = .returned (planV 0 false 7) ∧ Below w.heap.size w w' := by
  have HM := Lib.hid hm
  clear hm
  have HN := Lib.hid (show (!pow2 g) = false from by rw [hg]; rfl)
  have HB := Lib.hid hb
  obtain ⟨hg0, hg1⟩ := pow2_range g hg
  obtain ⟨hl0, ht0, hl8, ht8⟩ := (lanes_good g l t).1 hb
  clear hg hb
  have HL := Lib.hid (nolanes_any g l t)
  go_enter Try.func32, Try.ntmps32
  go_wp2_with fail
  refine (nogroups_any g _).mono ?_
  rintro e w1 ⟨rfl, b1⟩
  have k1_0 : w1.cell? ⟨w.heap.size, 0, none⟩ = some (.int .i64 0) := cell_of b1 (by simp) (by simp [go_sem])
  have k1_1 : w1.cell? ⟨w.heap.size, 1, none⟩ = some (.bool false) := cell_of b1 (by simp) (by simp [go_sem])
  have f1_0 : w1.frozen? ⟨w.heap.size, 0, none⟩ = false := free_of b1 (by simp) (by simp [go_sem])
  have f1_1 : w1.frozen? ⟨w.heap.size, 1, none⟩ = false := free_of b1 (by simp) (by simp [go_sem])
  have y1 : w.heap.size < w1.heap.size := by (have := b1.size); (try simp at this); omega
  rw [HN.out]
  go_wp2_with fail
  refine (HL.out _ g0 g1 l0 l1).mono ?_
  rintro e w2 ⟨b, rfl, hbb, b2⟩
  obtain rfl : b = false := (hbb hg0 hg1).trans HB.out
  clear hbb
  have k2_0 : w2.cell? ⟨w.heap.size, 0, none⟩ = some (.int .i64 0) := cell_of b2 (by omega) (k1_0)
  have k2_1 : w2.cell? ⟨w.heap.size, 1, none⟩ = some (.bool false) := cell_of b2 (by omega) (k1_1)
  have f2_0 : w2.frozen? ⟨w.heap.size, 0, none⟩ = false := free_of b2 (by omega) (f1_0)
  have f2_1 : w2.frozen? ⟨w.heap.size, 1, none⟩ = false := free_of b2 (by omega) (f1_1)
  have y2 : w.heap.size < w2.heap.size := by (have := b2.size); (try simp at this); omega
  clear k1_0 k1_1 f1_0 f1_1
  go_wp2_with fail
  refine (first2_any _ false false 2 3 _ (by simp [go_sem]) (by simp [go_sem]) (by simp [go_sem]) (by simp [go_sem]) (by simp)).mono ?_
  rintro e w3 ⟨rfl, b3⟩
  have k3_0 : w3.cell? ⟨w.heap.size, 0, none⟩ = some (.int .i64 0) := cell_of b3 (by simp; omega) (by simp [go_sem, k2_0, y2])
  have k3_1 : w3.cell? ⟨w.heap.size, 1, none⟩ = some (.bool false) := cell_of b3 (by simp; omega) (by simp [go_sem, k2_1, y2])
  have f3_0 : w3.frozen? ⟨w.heap.size, 0, none⟩ = false := free_of b3 (by simp; omega) (by simp [go_sem, f2_0, y2])
  have f3_1 : w3.frozen? ⟨w.heap.size, 1, none⟩ = false := free_of b3 (by simp; omega) (by simp [go_sem, f2_1, y2])
  have y3 : w.heap.size < w3.heap.size := by (have := b3.size); (try simp at this); omega
  clear k2_0 k2_1 f2_0 f2_1
  go_wp2_with fail
  refine (valid_any (2 * g) _).mono ?_
  rintro e w4 ⟨rfl, rfl⟩
  rw [HM.out]
  go_wp2_with fail
  refine (first1_any _ true 7 _ (by simp [go_sem]; try omega) (by simp [go_sem])).mono ?_
  rintro e w4 ⟨rfl, b4⟩
  have k4_0 : w4.cell? ⟨w.heap.size, 0, none⟩ = some (.int .i64 0) := cell_of b4 (by simp; omega) (by simp [go_sem, k3_0, y3])
  have k4_1 : w4.cell? ⟨w.heap.size, 1, none⟩ = some (.bool false) := cell_of b4 (by simp; omega) (by simp [go_sem, k3_1, y3])
  have f4_0 : w4.frozen? ⟨w.heap.size, 0, none⟩ = false := free_of b4 (by simp; omega) (by simp [go_sem, f3_0, y3])
  have f4_1 : w4.frozen? ⟨w.heap.size, 1, none⟩ = false := free_of b4 (by simp; omega) (by simp [go_sem, f3_1, y3])
  have y4 : w.heap.size < w4.heap.size := by (have := b4.size); (try simp at this); omega
  clear k3_0 k3_1 f3_0 f3_1
  go_wp2_with fail
  have kr := res2 (a := .int .i64 0) (b := .bool false) k4_0 k4_1
  refine bodyPost_ret (v := planV 0 false 7) (by simp [results, Try.results32, go_sem, planV, kr]) rfl ⟨rfl, ?_⟩
  exact (((tr (tr (tr (tr ((Below.refl _ _).alloc (Nat.le_refl _) _) b1) b2) (tr (by go_grown) b3)) (tr (by go_grown) b4))).setCell (p := ⟨w.heap.size, 0, none⟩) (Nat.le_refl _) _).setCell (p := ⟨w.heap.size, 1, none⟩) (Nat.le_refl _) _

omit g0 g1 l0 l1 in
theorem bound_pos (hl0 : 0 ≤ l) (hl1 : l ≤ 9000000) : 1 ≤ boundI l ∧ boundI l ≤ 80000000 := by
  obtain ⟨k, hk, e, h1, h2⟩ := up_spec 1 (4 * l + 16) 30 1 (by simp only [Int.reducePow]; omega)
  unfold boundI
  rw [e]
  have hp := pow_pos' k
  refine ⟨by omega, ?_⟩
  cases k with
  | zero => simp
  | succ k =>
    have := h2 (by omega)
    simp only [Nat.add_sub_cancel] at this
    rw [Int.pow_succ]; omega

set_option maxHeartbeats 2000000 in
theorem remove_shrink (hg : pow2 g = true) (hb : badLanes g l t = false) (hs : boundI l < 8 * g) :
    Calls Try.prog 34 #[.int .i64 g, .int .i64 l, .int .i64 t] w fun e w' => e = .returned (planV (boundI l / 8) true 0) ∧ Below w.heap.size w w' := by
  have HN := Lib.hid (show (!pow2 g) = false from by rw [hg]; rfl)
  have HB := Lib.hid hb
  obtain ⟨hg0, hg1⟩ := pow2_range g hg
  obtain ⟨hl0, ht0, hl8, ht8⟩ := (lanes_good g l t).1 hb
  clear hg hb
  have hbd := bound_pos l hl0 (by omega)
  have HL := Lib.hid (nolanes_any g l t)
  go_enter Try.func34, Try.ntmps34
  go_wp2_with fail
  refine (nogroups_any g _).mono ?_
  rintro e w1 ⟨rfl, b1⟩
  have k1_0 : w1.cell? ⟨w.heap.size, 0, none⟩ = some (.int .i64 0) := cell_of b1 (by simp) (by simp [go_sem])
  have k1_1 : w1.cell? ⟨w.heap.size, 1, none⟩ = some (.bool false) := cell_of b1 (by simp) (by simp [go_sem])
  have f1_0 : w1.frozen? ⟨w.heap.size, 0, none⟩ = false := free_of b1 (by simp) (by simp [go_sem])
  have f1_1 : w1.frozen? ⟨w.heap.size, 1, none⟩ = false := free_of b1 (by simp) (by simp [go_sem])
  have y1 : w.heap.size < w1.heap.size := by (have := b1.size); (try simp at this); omega
  rw [HN.out]
  go_wp2_with fail
  refine (HL.out _ g0 g1 l0 l1).mono ?_
  rintro e w2 ⟨b, rfl, hbb, b2⟩
  obtain rfl : b = false := (hbb hg0 hg1).trans HB.out
  clear hbb
  have k2_0 : w2.cell? ⟨w.heap.size, 0, none⟩ = some (.int .i64 0) := cell_of b2 (by omega) (k1_0)
  have k2_1 : w2.cell? ⟨w.heap.size, 1, none⟩ = some (.bool false) := cell_of b2 (by omega) (k1_1)
  have f2_0 : w2.frozen? ⟨w.heap.size, 0, none⟩ = false := free_of b2 (by omega) (f1_0)
  have f2_1 : w2.frozen? ⟨w.heap.size, 1, none⟩ = false := free_of b2 (by omega) (f1_1)
  have y2 : w.heap.size < w2.heap.size := by (have := b2.size); (try simp at this); omega
  clear k1_0 k1_1 f1_0 f1_1
  go_wp2_with fail
  refine (first2_any _ false false 2 3 _ (by simp [go_sem]) (by simp [go_sem]) (by simp [go_sem]) (by simp [go_sem]) (by simp)).mono ?_
  rintro e w3 ⟨rfl, b3⟩
  have k3_0 : w3.cell? ⟨w.heap.size, 0, none⟩ = some (.int .i64 0) := cell_of b3 (by simp; omega) (by simp [go_sem, k2_0, y2])
  have k3_1 : w3.cell? ⟨w.heap.size, 1, none⟩ = some (.bool false) := cell_of b3 (by simp; omega) (by simp [go_sem, k2_1, y2])
  have f3_0 : w3.frozen? ⟨w.heap.size, 0, none⟩ = false := free_of b3 (by simp; omega) (by simp [go_sem, f2_0, y2])
  have f3_1 : w3.frozen? ⟨w.heap.size, 1, none⟩ = false := free_of b3 (by simp; omega) (by simp [go_sem, f2_1, y2])
  have y3 : w.heap.size < w3.heap.size := by (have := b3.size); (try simp at this); omega
  clear k2_0 k2_1 f2_0 f2_1
  go_wp2_with fail
  refine (bound_any l hl0 (by omega) _).mono ?_
  rintro e w4 ⟨rfl, rfl⟩
  go_wp2_with fail
  have kr := res2 (a := .int .i64 (boundI l / 8)) (b := .bool true) k3_0 k3_1
  refine bodyPost_ret (v := planV (boundI l / 8) true 0) (by simp [results, Try.results34, go_sem, planV, kr]) rfl ⟨rfl, ?_⟩
  exact (((tr (tr (tr ((Below.refl _ _).alloc (Nat.le_refl _) _) b1) b2) (tr (by go_grown) b3))).setCell (p := ⟨w.heap.size, 0, none⟩) (Nat.le_refl _) _).setCell (p := ⟨w.heap.size, 1, none⟩) (Nat.le_refl _) _

set_option maxHeartbeats 2000000 in
theorem remove_stay (hg : pow2 g = true) (hb : badLanes g l t = false) (hs : 8 * g ≤ boundI l) :
    Calls Try.prog 34 #[.int .i64 g, .int .i64 l, .int .i64 t] w fun e w' => e = .returned (planV g false 0) ∧ Below w.heap.size w w' := by
  have HN := Lib.hid (show (!pow2 g) = false from by rw [hg]; rfl)
  have HB := Lib.hid hb
  obtain ⟨hg0, hg1⟩ := pow2_range g hg
  obtain ⟨hl0, ht0, hl8, ht8⟩ := (lanes_good g l t).1 hb
  clear hg hb
  have hbd := bound_pos l hl0 (by omega)
  have HL := Lib.hid (nolanes_any g l t)
  go_enter Try.func34, Try.ntmps34
  go_wp2_with fail
  refine (nogroups_any g _).mono ?_
  rintro e w1 ⟨rfl, b1⟩
  have k1_0 : w1.cell? ⟨w.heap.size, 0, none⟩ = some (.int .i64 0) := cell_of b1 (by simp) (by simp [go_sem])
  have k1_1 : w1.cell? ⟨w.heap.size, 1, none⟩ = some (.bool false) := cell_of b1 (by simp) (by simp [go_sem])
  have f1_0 : w1.frozen? ⟨w.heap.size, 0, none⟩ = false := free_of b1 (by simp) (by simp [go_sem])
  have f1_1 : w1.frozen? ⟨w.heap.size, 1, none⟩ = false := free_of b1 (by simp) (by simp [go_sem])
  have y1 : w.heap.size < w1.heap.size := by (have := b1.size); (try simp at this); omega
  rw [HN.out]
  go_wp2_with fail
  refine (HL.out _ g0 g1 l0 l1).mono ?_
  rintro e w2 ⟨b, rfl, hbb, b2⟩
  obtain rfl : b = false := (hbb hg0 hg1).trans HB.out
  clear hbb
  have k2_0 : w2.cell? ⟨w.heap.size, 0, none⟩ = some (.int .i64 0) := cell_of b2 (by omega) (k1_0)
  have k2_1 : w2.cell? ⟨w.heap.size, 1, none⟩ = some (.bool false) := cell_of b2 (by omega) (k1_1)
  have f2_0 : w2.frozen? ⟨w.heap.size, 0, none⟩ = false := free_of b2 (by omega) (f1_0)
  have f2_1 : w2.frozen? ⟨w.heap.size, 1, none⟩ = false := free_of b2 (by omega) (f1_1)
  have y2 : w.heap.size < w2.heap.size := by (have := b2.size); (try simp at this); omega
  clear k1_0 k1_1 f1_0 f1_1
  go_wp2_with fail
  refine (first2_any _ false false 2 3 _ (by simp [go_sem]) (by simp [go_sem]) (by simp [go_sem]) (by simp [go_sem]) (by simp)).mono ?_
  rintro e w3 ⟨rfl, b3⟩
  have k3_0 : w3.cell? ⟨w.heap.size, 0, none⟩ = some (.int .i64 0) := cell_of b3 (by simp; omega) (by simp [go_sem, k2_0, y2])
  have k3_1 : w3.cell? ⟨w.heap.size, 1, none⟩ = some (.bool false) := cell_of b3 (by simp; omega) (by simp [go_sem, k2_1, y2])
  have f3_0 : w3.frozen? ⟨w.heap.size, 0, none⟩ = false := free_of b3 (by simp; omega) (by simp [go_sem, f2_0, y2])
  have f3_1 : w3.frozen? ⟨w.heap.size, 1, none⟩ = false := free_of b3 (by simp; omega) (by simp [go_sem, f2_1, y2])
  have y3 : w.heap.size < w3.heap.size := by (have := b3.size); (try simp at this); omega
  clear k2_0 k2_1 f2_0 f2_1
  go_wp2_with fail
  refine (bound_any l hl0 (by omega) _).mono ?_
  rintro e w4 ⟨rfl, rfl⟩
  go_wp2_with fail
  have kr := res2 (a := .int .i64 g) (b := .bool false) k3_0 k3_1
  refine bodyPost_ret (v := planV g false 0) (by simp [results, Try.results34, go_sem, planV, kr]) rfl ⟨rfl, ?_⟩
  exact (((tr (tr (tr ((Below.refl _ _).alloc (Nat.le_refl _) _) b1) b2) (tr (by go_grown) b3))).setCell (p := ⟨w.heap.size, 0, none⟩) (Nat.le_refl _) _).setCell (p := ⟨w.heap.size, 1, none⟩) (Nat.le_refl _) _
end
end Go.Proofs.Ytdilhldaipjhoaa.Grow
