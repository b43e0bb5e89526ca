/-
  Walks over the laws of layer 8 (growth): the chapter's examples.
-/
import Derived.Test.YtdilhldaipjhoaaGrowT
namespace Go.Proofs.Ytdilhldaipjhoaa.Grow
open Go.RowKit Kit GrowM

set_option maxHeartbeats 400000 in
theorem is_same (n e : Int) (w : World) :
    Calls Try.prog 26 #[.int .i64 n, .int .i64 e, .int .i64 n, .int .i64 e] w fun r w' => r = .returned (.bool true) ∧ w = w' := by
  go_enter Try.func26, Try.ntmps26
  go_wp2
  go_ret
  exact ⟨rfl, rfl⟩
set_option maxHeartbeats 400000 in
theorem plan_same (g : Int) (b : Bool) (e : Int) (w : World) :
    Calls Try.prog 46 #[.agg #[.int .i64 g, .bool b], .int .i64 e, .int .i64 g, .bool b, .int .i64 e] w fun r w' => r = .returned (.bool true) ∧ Below w.heap.size w w' := by
  go_enter Try.func46, Try.ntmps46
  go_wp2
  go_ret
  exact ⟨rfl, by go_grown⟩

theorem limit_is (g n c : Int) (h : (pow2 g = true ∧ n = 7 * g ∧ c = 0) ∨ (pow2 g = false ∧ n = 0 ∧ c = 2)) (w : World) :
    Calls Try.prog 24 #[.int .i64 g] w fun e w' => e = .returned (.tuple #[.int .i64 n, .int .i64 c]) ∧ Below w.heap.size w w' := by
  rcases h with ⟨hg, rfl, rfl⟩ | ⟨hg, rfl, rfl⟩
  · exact limit_ok g hg w
  · exact limit_bad g hg w
theorem Bound_is (l n : Int) (h0 : 0 ≤ l) (h1 : l ≤ 7340032) (h : boundI l = n) (w : World) :
    Calls Try.prog 27 #[.int .i64 l] w fun e w' => e = .returned (.tuple #[.int .i64 n, .int .i64 0]) ∧ Below w.heap.size w w' := by
  rw [← h]; exact Bound_ok l h0 h1 w
theorem Groups_is (l n : Int) (h0 : 0 ≤ l) (h1 : l ≤ 7340032) (h : groupsI l = n) (w : World) :
    Calls Try.prog 29 #[.int .i64 l] w fun e w' => e = .returned (.tuple #[.int .i64 n, .int .i64 0]) ∧ Below w.heap.size w w' := by
  rw [← h]; exact Groups_ok l h0 h1 w

/-- a plan, written out for the walk -/
def planA (g : Int) (b : Bool) : Value := .agg #[.int .i64 g, .bool b]

set_option maxRecDepth 100000 in
set_option maxHeartbeats 8000000 in
theorem known_any (w : World) :
    Calls Try.prog 31 #[] w fun e w' => e = .returned (.bool true) ∧ Below w.heap.size w w' := by
  go_enter Try.func31, Try.ntmps31
  go_wp2
  go_loopw [26] (fun i wr => ∃ k : Int, 0 ≤ k ∧ k ≤ 3 ∧ i = .int .i64 k ∧ Below (w.alloc (.cells #[.int .i64 1, .int .i64 7, .int .i64 0, .int .i64 4, .int .i64 28, .int .i64 0, .int .i64 3, .int .i64 0, .int .i64 2] 64)).heap.size (w.alloc (.cells #[.int .i64 1, .int .i64 7, .int .i64 0, .int .i64 4, .int .i64 28, .int .i64 0, .int .i64 3, .int .i64 0, .int .i64 2] 64)) wr) (fun i _ => 3 - (intOf i).toNat)
  case atStart => exact ⟨0, by omega, by omega, rfl, Below.refl _ _⟩
  case round =>
    obtain ⟨k, hk0, hk, rfl, hb⟩ := hrel
    have hs : w.heap.size < wr.heap.size := by have := hb.size; simp at this; omega
    obtain rfl | rfl | rfl | rfl : k = 0 ∨ k = 1 ∨ k = 2 ∨ k = 3 := by omega
    · have c0 : wr.cell? ⟨w.heap.size, 0, none⟩ = some (.int .i64 1) := cell_of hb (by simp) (by simp [go_sem])
      have c1 : wr.cell? ⟨w.heap.size, 1, none⟩ = some (.int .i64 7) := cell_of hb (by simp) (by simp [go_sem])
      have c2 : wr.cell? ⟨w.heap.size, 2, none⟩ = some (.int .i64 0) := cell_of hb (by simp) (by simp [go_sem])
      have HB := Lib.hid hb
      clear hb
      go_wp2_with fail
      refine (limit_is 1 7 0 (by decide +kernel) _).mono ?_
      rintro e w1 ⟨rfl, b1⟩
      obtain ⟨cc, ff, ss⟩ := bcell b1
      have hs1 : wr.heap.size < w1.heap.size := by simp at ss; omega
      go_wp2_with fail
      refine (is_same _ _ _).mono ?_
      rintro e w2 ⟨rfl, rfl⟩
      go_wp2_with fail
      go_roundw
      case rel => exact ⟨1, by omega, by omega, by simp, tr HB.out (tr (by go_grown) b1)⟩
      case measure => simp [intOf]
    · have c0 : wr.cell? ⟨w.heap.size, 3, none⟩ = some (.int .i64 4) := cell_of hb (by simp) (by simp [go_sem])
      have c1 : wr.cell? ⟨w.heap.size, 4, none⟩ = some (.int .i64 28) := cell_of hb (by simp) (by simp [go_sem])
      have c2 : wr.cell? ⟨w.heap.size, 5, none⟩ = some (.int .i64 0) := cell_of hb (by simp) (by simp [go_sem])
      have HB := Lib.hid hb
      clear hb
      go_wp2_with fail
      refine (limit_is 4 28 0 (by decide +kernel) _).mono ?_
      rintro e w1 ⟨rfl, b1⟩
      obtain ⟨cc, ff, ss⟩ := bcell b1
      have hs1 : wr.heap.size < w1.heap.size := by simp at ss; omega
      go_wp2_with fail
      refine (is_same _ _ _).mono ?_
      rintro e w2 ⟨rfl, rfl⟩
      go_wp2_with fail
      go_roundw
      case rel => exact ⟨2, by omega, by omega, by simp, tr HB.out (tr (by go_grown) b1)⟩
      case measure => simp [intOf]
    · have c0 : wr.cell? ⟨w.heap.size, 6, none⟩ = some (.int .i64 3) := cell_of hb (by simp) (by simp [go_sem])
      have c1 : wr.cell? ⟨w.heap.size, 7, none⟩ = some (.int .i64 0) := cell_of hb (by simp) (by simp [go_sem])
      have c2 : wr.cell? ⟨w.heap.size, 8, none⟩ = some (.int .i64 2) := cell_of hb (by simp) (by simp [go_sem])
      have HB := Lib.hid hb
      clear hb
      go_wp2_with fail
      refine (limit_is 3 0 2 (by decide +kernel) _).mono ?_
      rintro e w1 ⟨rfl, b1⟩
      obtain ⟨cc, ff, ss⟩ := bcell b1
      have hs1 : wr.heap.size < w1.heap.size := by simp at ss; omega
      go_wp2_with fail
      refine (is_same _ _ _).mono ?_
      rintro e w2 ⟨rfl, rfl⟩
      go_wp2_with fail
      go_roundw
      case rel => exact ⟨3, by omega, by omega, by simp, tr HB.out (tr (by go_grown) b1)⟩
      case measure => simp [intOf]
    · have hBv1 : Below w.heap.size w wr := tr (tr (Below.refl _ _) (by go_grown)) hb
      clear hb hs hk hk0
      obtain ⟨v1, rfl⟩ : ∃ v1, v1 = wr := ⟨_, rfl⟩
      go_wp2_with fail
      go_loopw [51] (fun i wr => ∃ k : Int, 0 ≤ k ∧ k ≤ 4 ∧ i = .int .i64 k ∧ Below (v1.alloc (.cells #[.int .i64 0, .int .i64 16, .int .i64 1, .int .i64 32, .int .i64 12, .int .i64 64, .int .i64 13, .int .i64 128] 66)).heap.size (v1.alloc (.cells #[.int .i64 0, .int .i64 16, .int .i64 1, .int .i64 32, .int .i64 12, .int .i64 64, .int .i64 13, .int .i64 128] 66)) wr) (fun i _ => 4 - (intOf i).toNat)
      case atStart => exact ⟨0, by omega, by omega, rfl, Below.refl _ _⟩
      case round =>
        obtain ⟨k, hk0, hk, rfl, hb⟩ := hrel
        have hs : v1.heap.size < wr.heap.size := by have := hb.size; simp at this; omega
        obtain rfl | rfl | rfl | rfl | rfl : k = 0 ∨ k = 1 ∨ k = 2 ∨ k = 3 ∨ k = 4 := by omega
        · have c0 : wr.cell? ⟨v1.heap.size, 0, none⟩ = some (.int .i64 0) := cell_of hb (by simp) (by simp [go_sem])
          have c1 : wr.cell? ⟨v1.heap.size, 1, none⟩ = some (.int .i64 16) := cell_of hb (by simp) (by simp [go_sem])
          have HB := Lib.hid hb
          clear hb
          go_wp2_with fail
          refine (Bound_is 0 16 (by decide) (by decide) (by decide +kernel) _).mono ?_
          rintro e w1 ⟨rfl, b1⟩
          obtain ⟨cc, ff, ss⟩ := bcell b1
          have hs1 : wr.heap.size < w1.heap.size := by simp at ss; omega
          go_wp2_with fail
          refine (is_same _ _ _).mono ?_
          rintro e w2 ⟨rfl, rfl⟩
          go_wp2_with fail
          go_roundw
          case rel => exact ⟨1, by omega, by omega, by simp, tr HB.out (tr (by go_grown) b1)⟩
          case measure => simp [intOf]
        · have c0 : wr.cell? ⟨v1.heap.size, 2, none⟩ = some (.int .i64 1) := cell_of hb (by simp) (by simp [go_sem])
          have c1 : wr.cell? ⟨v1.heap.size, 3, none⟩ = some (.int .i64 32) := cell_of hb (by simp) (by simp [go_sem])
          have HB := Lib.hid hb
          clear hb
          go_wp2_with fail
          refine (Bound_is 1 32 (by decide) (by decide) (by decide +kernel) _).mono ?_
          rintro e w1 ⟨rfl, b1⟩
          obtain ⟨cc, ff, ss⟩ := bcell b1
          have hs1 : wr.heap.size < w1.heap.size := by simp at ss; omega
          go_wp2_with fail
          refine (is_same _ _ _).mono ?_
          rintro e w2 ⟨rfl, rfl⟩
          go_wp2_with fail
          go_roundw
          case rel => exact ⟨2, by omega, by omega, by simp, tr HB.out (tr (by go_grown) b1)⟩
          case measure => simp [intOf]
        · have c0 : wr.cell? ⟨v1.heap.size, 4, none⟩ = some (.int .i64 12) := cell_of hb (by simp) (by simp [go_sem])
          have c1 : wr.cell? ⟨v1.heap.size, 5, none⟩ = some (.int .i64 64) := cell_of hb (by simp) (by simp [go_sem])
          have HB := Lib.hid hb
          clear hb
          go_wp2_with fail
          refine (Bound_is 12 64 (by decide) (by decide) (by decide +kernel) _).mono ?_
          rintro e w1 ⟨rfl, b1⟩
          obtain ⟨cc, ff, ss⟩ := bcell b1
          have hs1 : wr.heap.size < w1.heap.size := by simp at ss; omega
          go_wp2_with fail
          refine (is_same _ _ _).mono ?_
          rintro e w2 ⟨rfl, rfl⟩
          go_wp2_with fail
          go_roundw
          case rel => exact ⟨3, by omega, by omega, by simp, tr HB.out (tr (by go_grown) b1)⟩
          case measure => simp [intOf]
        · have c0 : wr.cell? ⟨v1.heap.size, 6, none⟩ = some (.int .i64 13) := cell_of hb (by simp) (by simp [go_sem])
          have c1 : wr.cell? ⟨v1.heap.size, 7, none⟩ = some (.int .i64 128) := cell_of hb (by simp) (by simp [go_sem])
          have HB := Lib.hid hb
          clear hb
          go_wp2_with fail
          refine (Bound_is 13 128 (by decide) (by decide) (by decide +kernel) _).mono ?_
          rintro e w1 ⟨rfl, b1⟩
          obtain ⟨cc, ff, ss⟩ := bcell b1
          have hs1 : wr.heap.size < w1.heap.size := by simp at ss; omega
          go_wp2_with fail
          refine (is_same _ _ _).mono ?_
          rintro e w2 ⟨rfl, rfl⟩
          go_wp2_with fail
          go_roundw
          case rel => exact ⟨4, by omega, by omega, by simp, tr HB.out (tr (by go_grown) b1)⟩
          case measure => simp [intOf]
        · have hBv2 : Below w.heap.size w wr := tr (tr hBv1 (by go_grown)) hb
          clear hb hs hk hk0
          obtain ⟨v2, rfl⟩ : ∃ v2, v2 = wr := ⟨_, rfl⟩
          go_wp2_with fail
          go_loopw [75] (fun i wr => ∃ k : Int, 0 ≤ k ∧ k ≤ 5 ∧ i = .int .i64 k ∧ Below (v2.alloc (.cells #[.int .i64 0, .int .i64 1, .int .i64 0, .int .i64 7, .int .i64 1, .int .i64 0, .int .i64 8, .int .i64 2, .int .i64 0, .int .i64 57, .int .i64 16, .int .i64 0, .int .i64 (-1), .int .i64 0, .int .i64 3] 64)).heap.size (v2.alloc (.cells #[.int .i64 0, .int .i64 1, .int .i64 0, .int .i64 7, .int .i64 1, .int .i64 0, .int .i64 8, .int .i64 2, .int .i64 0, .int .i64 57, .int .i64 16, .int .i64 0, .int .i64 (-1), .int .i64 0, .int .i64 3] 64)) wr) (fun i _ => 5 - (intOf i).toNat)
          case atStart => exact ⟨0, by omega, by omega, rfl, Below.refl _ _⟩
          case round =>
            obtain ⟨k, hk0, hk, rfl, hb⟩ := hrel
            have hs : v2.heap.size < wr.heap.size := by have := hb.size; simp at this; omega
            obtain rfl | rfl | rfl | rfl | rfl | rfl : k = 0 ∨ k = 1 ∨ k = 2 ∨ k = 3 ∨ k = 4 ∨ k = 5 := by omega
            · have c0 : wr.cell? ⟨v2.heap.size, 0, none⟩ = some (.int .i64 0) := cell_of hb (by simp) (by simp [go_sem])
              have c1 : wr.cell? ⟨v2.heap.size, 1, none⟩ = some (.int .i64 1) := cell_of hb (by simp) (by simp [go_sem])
              have c2 : wr.cell? ⟨v2.heap.size, 2, none⟩ = some (.int .i64 0) := cell_of hb (by simp) (by simp [go_sem])
              have HB := Lib.hid hb
              clear hb
              go_wp2_with fail
              refine (Groups_is 0 1 (by decide) (by decide) (by decide +kernel) _).mono ?_
              rintro e w1 ⟨rfl, b1⟩
              obtain ⟨cc, ff, ss⟩ := bcell b1
              have hs1 : wr.heap.size < w1.heap.size := by simp at ss; omega
              go_wp2_with fail
              refine (is_same _ _ _).mono ?_
              rintro e w2 ⟨rfl, rfl⟩
              go_wp2_with fail
              go_roundw
              case rel => exact ⟨1, by omega, by omega, by simp, tr HB.out (tr (by go_grown) b1)⟩
              case measure => simp [intOf]
            · have c0 : wr.cell? ⟨v2.heap.size, 3, none⟩ = some (.int .i64 7) := cell_of hb (by simp) (by simp [go_sem])
              have c1 : wr.cell? ⟨v2.heap.size, 4, none⟩ = some (.int .i64 1) := cell_of hb (by simp) (by simp [go_sem])
              have c2 : wr.cell? ⟨v2.heap.size, 5, none⟩ = some (.int .i64 0) := cell_of hb (by simp) (by simp [go_sem])
              have HB := Lib.hid hb
              clear hb
              go_wp2_with fail
              refine (Groups_is 7 1 (by decide) (by decide) (by decide +kernel) _).mono ?_
              rintro e w1 ⟨rfl, b1⟩
              obtain ⟨cc, ff, ss⟩ := bcell b1
              have hs1 : wr.heap.size < w1.heap.size := by simp at ss; omega
              go_wp2_with fail
              refine (is_same _ _ _).mono ?_
              rintro e w2 ⟨rfl, rfl⟩
              go_wp2_with fail
              go_roundw
              case rel => exact ⟨2, by omega, by omega, by simp, tr HB.out (tr (by go_grown) b1)⟩
              case measure => simp [intOf]
            · have c0 : wr.cell? ⟨v2.heap.size, 6, none⟩ = some (.int .i64 8) := cell_of hb (by simp) (by simp [go_sem])
              have c1 : wr.cell? ⟨v2.heap.size, 7, none⟩ = some (.int .i64 2) := cell_of hb (by simp) (by simp [go_sem])
              have c2 : wr.cell? ⟨v2.heap.size, 8, none⟩ = some (.int .i64 0) := cell_of hb (by simp) (by simp [go_sem])
              have HB := Lib.hid hb
              clear hb
              go_wp2_with fail
              refine (Groups_is 8 2 (by decide) (by decide) (by decide +kernel) _).mono ?_
              rintro e w1 ⟨rfl, b1⟩
              obtain ⟨cc, ff, ss⟩ := bcell b1
              have hs1 : wr.heap.size < w1.heap.size := by simp at ss; omega
              go_wp2_with fail
              refine (is_same _ _ _).mono ?_
              rintro e w2 ⟨rfl, rfl⟩
              go_wp2_with fail
              go_roundw
              case rel => exact ⟨3, by omega, by omega, by simp, tr HB.out (tr (by go_grown) b1)⟩
              case measure => simp [intOf]
            · have c0 : wr.cell? ⟨v2.heap.size, 9, none⟩ = some (.int .i64 57) := cell_of hb (by simp) (by simp [go_sem])
              have c1 : wr.cell? ⟨v2.heap.size, 10, none⟩ = some (.int .i64 16) := cell_of hb (by simp) (by simp [go_sem])
              have c2 : wr.cell? ⟨v2.heap.size, 11, none⟩ = some (.int .i64 0) := cell_of hb (by simp) (by simp [go_sem])
              have HB := Lib.hid hb
              clear hb
              go_wp2_with fail
              refine (Groups_is 57 16 (by decide) (by decide) (by decide +kernel) _).mono ?_
              rintro e w1 ⟨rfl, b1⟩
              obtain ⟨cc, ff, ss⟩ := bcell b1
              have hs1 : wr.heap.size < w1.heap.size := by simp at ss; omega
              go_wp2_with fail
              refine (is_same _ _ _).mono ?_
              rintro e w2 ⟨rfl, rfl⟩
              go_wp2_with fail
              go_roundw
              case rel => exact ⟨4, by omega, by omega, by simp, tr HB.out (tr (by go_grown) b1)⟩
              case measure => simp [intOf]
            · have c0 : wr.cell? ⟨v2.heap.size, 12, none⟩ = some (.int .i64 (-1)) := cell_of hb (by simp) (by simp [go_sem])
              have c1 : wr.cell? ⟨v2.heap.size, 13, none⟩ = some (.int .i64 0) := cell_of hb (by simp) (by simp [go_sem])
              have c2 : wr.cell? ⟨v2.heap.size, 14, none⟩ = some (.int .i64 3) := cell_of hb (by simp) (by simp [go_sem])
              have HB := Lib.hid hb
              clear hb
              go_wp2_with fail
              refine (Groups_bad (-1) (by decide) _).mono ?_
              rintro e w1 ⟨rfl, b1⟩
              obtain ⟨cc, ff, ss⟩ := bcell b1
              have hs1 : wr.heap.size < w1.heap.size := by simp at ss; omega
              go_wp2_with fail
              refine (is_same _ _ _).mono ?_
              rintro e w2 ⟨rfl, rfl⟩
              go_wp2_with fail
              go_roundw
              case rel => exact ⟨5, by omega, by omega, by simp, tr HB.out (tr (by go_grown) b1)⟩
              case measure => simp [intOf]
            · have hBv3 : Below w.heap.size w wr := tr (tr hBv2 (by go_grown)) hb
              clear hb hs hk hk0
              obtain ⟨v3, rfl⟩ : ∃ v3, v3 = wr := ⟨_, rfl⟩
              go_wp2_with fail
              -- inserts
              go_wp2_with fail
              refine (insert_room_true (1) (6) (0) _ (by decide) (by decide) (by decide) (by decide) (by decide +kernel) (by decide +kernel) (by decide) (by decide +kernel)).mono ?_
              rintro e w1 ⟨rfl, b1⟩
              have H1 := tr hBv3 b1
              simp only [planV]
              go_wp2_with fail
              refine (insert_half_true (1) (3) (4) _ (by decide) (by decide) (by decide) (by decide) (by decide +kernel) (by decide +kernel) (by decide) (by decide) (by decide +kernel)).mono ?_
              rintro e w2 ⟨rfl, b2⟩
              have A2 := (Bx.new w1 48 (.int .i64 1) (.bool false)).below b2
              have H2 := tr (tr H1 (by go_grown)) b2
              simp only [planV]
              go_wp2_with fail
              refine (insert_more (1) (4) (3) _ (by decide) (by decide) (by decide) (by decide) (by decide +kernel) (by decide +kernel) (by decide) (by decide) (by decide +kernel)).mono ?_
              rintro e w3 ⟨rfl, b3⟩
              have A3 := (A2.alloc _).below b3
              have B3 := (Bx.new w2 48 (.int .i64 1) (.bool true)).below b3
              clear A2
              have H3 := tr (tr H2 (by go_grown)) b3
              simp only [planV]
              have hneAB : w1.heap.size ≠ w2.heap.size := by have := b2.size; simp at this; omega
              go_wp2_with fail
              refine (insert_more (1) (7) (0) _ (by decide) (by decide) (by decide) (by decide) (by decide +kernel) (by decide +kernel) (by decide) (by decide) (by decide +kernel)).mono ?_
              rintro e w4 ⟨rfl, b4⟩
              have A4 := (A3.alloc _).below b4
              have B4 := (B3.alloc _).below b4
              have C4 := (Bx.new w3 48 (.int .i64 2) (.bool true)).below b4
              clear A3 B3
              have H4 := tr (tr H3 (by go_grown)) b4
              simp only [planV]
              have hneAC : w1.heap.size ≠ w3.heap.size := by have h2 := b2.size; have h3 := b3.size; simp at h2 h3; omega
              have hneBC : w2.heap.size ≠ w3.heap.size := by have := b3.size; simp at this; omega
              have hneAD : w1.heap.size ≠ w4.heap.size := by have := A4.lt; omega
              have hneBD : w2.heap.size ≠ w4.heap.size := by have := B4.lt; omega
              have hneCD : w3.heap.size ≠ w4.heap.size := by have := C4.lt; omega
              have hneBA := hneAB.symm
              have hneCA := hneAC.symm
              have hneDA := hneAD.symm
              have hneCB := hneBC.symm
              have hneDB := hneBD.symm
              have hneDC := hneCD.symm
              have x0 := A4.c0
              have x1 := A4.c1
              have xl := A4.lt
              go_wp2_with fail
              refine (plan_same 1 false 0 _).mono ?_
              rintro e w5 ⟨rfl, b5⟩
              have A5 := (A4.alloc _).below b5
              have B5 := (B4.alloc _).below b5
              have C5 := (C4.alloc _).below b5
              have D5 := (Bx.new w4 48 (.int .i64 2) (.bool true)).below b5
              clear A4 B4 C4
              have H5 := tr (tr H4 (by go_grown)) b5
              clear x0 x1
              have x0 := B5.c0
              have x1 := B5.c1
              have xl := B5.lt
              go_wp2_with fail
              refine (plan_same 1 true 0 _).mono ?_
              rintro e w6 ⟨rfl, b6⟩
              have A6 := A5.below b6
              have B6 := B5.below b6
              have C6 := C5.below b6
              have D6 := D5.below b6
              clear A5 B5 C5 D5
              have H6 := tr H5 b6
              clear b6
              clear x0 x1
              have x0 := C6.c0
              have x1 := C6.c1
              have xl := C6.lt
              go_wp2_with fail
              refine (plan_same 2 true 0 _).mono ?_
              rintro e w7 ⟨rfl, b7⟩
              have A7 := A6.below b7
              have B7 := B6.below b7
              have C7 := C6.below b7
              have D7 := D6.below b7
              clear A6 B6 C6 D6
              have H7 := tr H6 b7
              clear b7
              clear H6
              clear x0 x1
              have x0 := D7.c0
              have x1 := D7.c1
              have xl := D7.lt
              go_wp2_with fail
              refine (plan_same 2 true 0 _).mono ?_
              rintro e w8 ⟨rfl, b8⟩
              have A8 := A7.below b8
              have B8 := B7.below b8
              have C8 := C7.below b8
              have D8 := D7.below b8
              clear A7 B7 C7 D7
              have H8 := tr H7 b8
              clear b8
              clear H7
              clear x0 x1
              go_wp2_with fail
              refine (remove_stay (4) (4) (0) _ (by decide) (by decide) (by decide) (by decide) (by decide +kernel) (by decide +kernel) (by decide +kernel)).mono ?_
              rintro e w9 ⟨rfl, b9⟩
              have A9 := A8.below b9
              have B9 := B8.below b9
              have C9 := C8.below b9
              have D9 := D8.below b9
              clear A8 B8 C8 D8
              have H9 := tr H8 b9
              clear b9
              clear H8
              simp only [planV]
              have y0 := A9.c0
              have y1 := A9.c1
              have z0 := A9.fr 0
              have z1 := A9.fr 1
              go_wp2_with fail
              refine (remove_stay (4) (3) (0) _ (by decide) (by decide) (by decide) (by decide) (by decide +kernel) (by decide +kernel) (by decide +kernel)).mono ?_
              rintro e w10 ⟨rfl, b10⟩
              have A10 := (A9.set (.int .i64 4) (.bool false)).below b10
              have B10 := (B9.other (q := w1.heap.size) (by have := hneBA; exact this) _ _).below b10
              have C10 := (C9.other (q := w1.heap.size) (by have := hneCA; exact this) _ _).below b10
              have D10 := (D9.other (q := w1.heap.size) (by have := hneDA; exact this) _ _).below b10
              clear A9 B9 C9 D9
              have H10 := tr_set H9 H1.size b10
              clear b10
              clear H9
              clear y0 y1 z0 z1
              simp only [planV]
              have y0 := B10.c0
              have y1 := B10.c1
              have z0 := B10.fr 0
              have z1 := B10.fr 1
              go_wp2_with fail
              refine (remove_shrink (8) (4) (0) _ (by decide) (by decide) (by decide) (by decide) (by decide +kernel) (by decide +kernel) (by decide +kernel)).mono ?_
              rintro e w11 ⟨rfl, b11⟩
              have A11 := (A10.other (q := w2.heap.size) (by have := hneAB; exact this) _ _).below b11
              have B11 := (B10.set (.int .i64 4) (.bool false)).below b11
              have C11 := (C10.other (q := w2.heap.size) (by have := hneCB; exact this) _ _).below b11
              have D11 := (D10.other (q := w2.heap.size) (by have := hneDB; exact this) _ _).below b11
              clear A10 B10 C10 D10
              have H11 := tr_set H10 H2.size b11
              clear b11
              clear H10
              clear y0 y1 z0 z1
              simp only [planV]
              have hbd4 : boundI 4 / 8 = 4 := by decide +kernel
              rw [hbd4]
              clear hbd4
              have y0 := C11.c0
              have y1 := C11.c1
              have z0 := C11.fr 0
              have z1 := C11.fr 1
              go_wp2_with fail
              refine (remove_stay (1) (0) (0) _ (by decide) (by decide) (by decide) (by decide) (by decide +kernel) (by decide +kernel) (by decide +kernel)).mono ?_
              rintro e w12 ⟨rfl, b12⟩
              have A12 := (A11.other (q := w3.heap.size) (by have := hneAC; exact this) _ _).below b12
              have B12 := (B11.other (q := w3.heap.size) (by have := hneBC; exact this) _ _).below b12
              have C12 := (C11.set (.int .i64 4) (.bool true)).below b12
              have D12 := (D11.other (q := w3.heap.size) (by have := hneDC; exact this) _ _).below b12
              clear A11 B11 C11 D11
              have H12 := tr_set H11 H3.size b12
              clear b12
              clear H11
              clear y0 y1 z0 z1
              simp only [planV]
              have y0 := D12.c0
              have y1 := D12.c1
              have z0 := D12.fr 0
              have z1 := D12.fr 1
              have x0 := (A12.other hneAD (.int .i64 1) (.bool false)).c0
              have x1 := (A12.other hneAD (.int .i64 1) (.bool false)).c1
              go_wp2_with fail
              refine (plan_same 4 false 0 _).mono ?_
              rintro e w13 ⟨rfl, b13⟩
              have A13 := (A12.other (q := w4.heap.size) (by have := hneAD; exact this) _ _).below b13
              have B13 := (B12.other (q := w4.heap.size) (by have := hneBD; exact this) _ _).below b13
              have C13 := (C12.other (q := w4.heap.size) (by have := hneCD; exact this) _ _).below b13
              have D13 := (D12.set (.int .i64 1) (.bool false)).below b13
              clear A12 B12 C12 D12
              have H13 := tr_set H12 H4.size b13
              clear b13
              clear H12
              clear x0 x1
              clear y0 y1 z0 z1
              have x0 := B13.c0
              have x1 := B13.c1
              have xl := B13.lt
              go_wp2_with fail
              refine (plan_same 4 false 0 _).mono ?_
              rintro e w14 ⟨rfl, b14⟩
              have A14 := A13.below b14
              have B14 := B13.below b14
              have C14 := C13.below b14
              have D14 := D13.below b14
              clear A13 B13 C13 D13
              have H14 := tr H13 b14
              clear b14
              clear H13
              clear x0 x1
              have x0 := C14.c0
              have x1 := C14.c1
              have xl := C14.lt
              go_wp2_with fail
              refine (plan_same 4 true 0 _).mono ?_
              rintro e w15 ⟨rfl, b15⟩
              have A15 := A14.below b15
              have B15 := B14.below b15
              have C15 := C14.below b15
              have D15 := D14.below b15
              clear A14 B14 C14 D14
              have H15 := tr H14 b15
              clear b15
              clear H14
              clear x0 x1
              have x0 := D15.c0
              have x1 := D15.c1
              have xl := D15.lt
              go_wp2_with fail
              refine (plan_same 1 false 0 _).mono ?_
              rintro e w16 ⟨rfl, b16⟩
              have A16 := A15.below b16
              have B16 := B15.below b16
              have C16 := C15.below b16
              have D16 := D15.below b16
              clear A15 B15 C15 D15
              have H16 := tr H15 b16
              clear b16
              clear H15
              clear x0 x1
              go_wp2_with fail
              refine (insert_full (1048576) (7340032) (0) _ (by decide) (by decide) (by decide) (by decide) (by decide +kernel) (by decide +kernel) (by decide) (by decide) (by decide +kernel) (by decide)).mono ?_
              rintro e w17 ⟨rfl, b17⟩
              have A17 := A16.below b17
              have B17 := B16.below b17
              have C17 := C16.below b17
              have D17 := D16.below b17
              clear A16 B16 C16 D16
              have H17 := tr H16 b17
              clear b17
              clear H16
              simp only [planV]
              have y0 := A17.c0
              have y1 := A17.c1
              have z0 := A17.fr 0
              have z1 := A17.fr 1
              go_wp2_with fail
              refine (insert_last (1048576) (7340031) (1) _ (by decide) (by decide) (by decide) (by decide) (by decide +kernel) (by decide +kernel) (by decide) (by decide) (by decide +kernel) (by decide)).mono ?_
              rintro e w18 ⟨rfl, b18⟩
              have A18 := (A17.set (.int .i64 0) (.bool false)).below b18
              have B18 := (B17.other (q := w1.heap.size) (by have := hneBA; exact this) _ _).below b18
              have C18 := (C17.other (q := w1.heap.size) (by have := hneCA; exact this) _ _).below b18
              have D18 := (D17.other (q := w1.heap.size) (by have := hneDA; exact this) _ _).below b18
              clear A17 B17 C17 D17
              have H18 := tr_set H17 H1.size b18
              clear b18
              clear H17
              clear y0 y1 z0 z1
              simp only [planV]
              have y0 := B18.c0
              have y1 := B18.c1
              have z0 := B18.fr 0
              have z1 := B18.fr 1
              go_wp2_with fail
              refine (insert_lanes (1) (5) (4) _ (by decide) (by decide) (by decide) (by decide) (by decide +kernel) (by decide +kernel)).mono ?_
              rintro e w19 ⟨rfl, b19⟩
              have A19 := (A18.other (q := w2.heap.size) (by have := hneAB; exact this) _ _).below b19
              have B19 := (B18.set (.int .i64 1048576) (.bool true)).below b19
              have C19 := (C18.other (q := w2.heap.size) (by have := hneCB; exact this) _ _).below b19
              have D19 := (D18.other (q := w2.heap.size) (by have := hneDB; exact this) _ _).below b19
              clear A18 B18 C18 D18
              have H19 := tr_set H18 H2.size b19
              clear b19
              clear H18
              clear y0 y1 z0 z1
              simp only [planV]
              have y0 := C19.c0
              have y1 := C19.c1
              have z0 := C19.fr 0
              have z1 := C19.fr 1
              have x0 := (A19.other hneAC (.int .i64 0) (.bool false)).c0
              have x1 := (A19.other hneAC (.int .i64 0) (.bool false)).c1
              go_wp2_with fail
              refine (plan_same 0 false 7 _).mono ?_
              rintro e w20 ⟨rfl, b20⟩
              have A20 := (A19.other (q := w3.heap.size) (by have := hneAC; exact this) _ _).below b20
              have B20 := (B19.other (q := w3.heap.size) (by have := hneBC; exact this) _ _).below b20
              have C20 := (C19.set (.int .i64 0) (.bool false)).below b20
              have D20 := (D19.other (q := w3.heap.size) (by have := hneDC; exact this) _ _).below b20
              clear A19 B19 C19 D19
              have H20 := tr_set H19 H3.size b20
              clear b20
              clear H19
              clear x0 x1
              clear y0 y1 z0 z1
              have x0 := B20.c0
              have x1 := B20.c1
              have xl := B20.lt
              go_wp2_with fail
              refine (plan_same 1048576 true 0 _).mono ?_
              rintro e w21 ⟨rfl, b21⟩
              have A21 := A20.below b21
              have B21 := B20.below b21
              have C21 := C20.below b21
              have D21 := D20.below b21
              clear A20 B20 C20 D20
              have H21 := tr H20 b21
              clear b21
              clear H20
              clear x0 x1
              have x0 := C21.c0
              have x1 := C21.c1
              have xl := C21.lt
              go_wp2_with fail
              refine (plan_same 0 false 3 _).mono ?_
              rintro e w22 ⟨rfl, b22⟩
              have A22 := A21.below b22
              have B22 := B21.below b22
              have C22 := C21.below b22
              have D22 := D21.below b22
              clear A21 B21 C21 D21
              have H22 := tr H21 b22
              clear b22
              clear H21
              clear x0 x1
              go_wp2_with fail
              go_ret
              exact ⟨rfl, H22⟩
end Go.Proofs.Ytdilhldaipjhoaa.Grow
