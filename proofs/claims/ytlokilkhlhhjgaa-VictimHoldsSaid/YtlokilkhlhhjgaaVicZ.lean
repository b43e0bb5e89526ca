/-
  Victims (layer 18): the law's first; lists of slots that are written.
-/
import Derived.Test.YtlokilkhlhhjgaaVicX
set_option linter.unusedVariables false
set_option linter.unusedSimpArgs false
namespace Go.Proofs.Ytlokilkhlhhjgaa.Vic
open Go Go.RowKit Kit Go.Maps
set_option maxRecDepth 100000 in
set_option maxHeartbeats 1000000 in
theorem first_any {w : World} {p1 p2 : Option Addr} {n1 n2 c1 c2 : Nat} {l1 l2 : List Int} (h1 : l1.length = n1) (h2 : l2.length = n2) (r1 : Ru w p1 l1) (r2 : Ru w p2 l2) (hn1 : n1 ≤ 1000000) (hn2 : n2 ≤ 1000000) :
    Calls Try.prog 18 #[.slice p1 n1 c1, .slice p2 n2 c2] w fun e w' => e = .returned (.int .i64 (firstI l1 l2)) ∧ Below w.heap.size w w' := by
  have H1 := Lib.hid h1
  have H2 := Lib.hid h2
  have R1 := Lib.hid (fun w' (hb : Below w.heap.size w w') => r1.below hb)
  have R2 := Lib.hid (fun w' (hb : Below w.heap.size w w') => r2.below hb)
  clear r1 r2 h1 h2
  go_enter Try.func18, Try.ntmps18
  go_wp2_with fail
  go_loopw [5] (fun i wr => ∃ j : Nat, j ≤ n1 ∧ j ≤ n2 ∧ i = .int .i64 j ∧ l1.take j = l2.take j ∧ Below w.heap.size w wr) (fun i _ => n1 - (intOf i).toNat)
  case atStart => exact ⟨0, by omega, by omega, rfl, by simp, Below.refl _ _⟩
  case round =>
    obtain ⟨j, hj, hj2, rfl, hT, bW⟩ := hrel
    have BW := Lib.hid bW
    have HT := Lib.hid hT
    clear bW hT
    have j0 : (0 : Int) ≤ (j : Int) := by omega
    by_cases hlt : j < n1 ∧ j < n2
    · obtain ⟨k1, k2⟩ := hlt
      obtain ⟨z1, hz1⟩ : ∃ p, l1[j]? = some p := ⟨l1[j]'(by rw [H1.out]; omega), List.getElem?_eq_getElem _⟩
      obtain ⟨z2, hz2⟩ : ∃ p, l2[j]? = some p := ⟨l2[j]'(by rw [H2.out]; omega), List.getElem?_eq_getElem _⟩
      obtain ⟨y1, rfl, _, x1⟩ := R1.out _ BW.out j z1 hz1
      obtain ⟨y2, rfl, _, x2⟩ := R2.out _ BW.out j z2 hz2
      have k1' : (j : Int) < (n1 : Int) := by omega
      have k2' : (j : Int) < (n2 : Int) := by omega
      have d1 : decide (n1 ≤ j) = false := by simp; omega
      have d2 : decide (n2 ≤ j) = false := by simp; omega
      have d3 : decide ((n1 : Int) ≤ (j : Int)) = false := by simp; omega
      have d4 : decide ((n2 : Int) ≤ (j : Int)) = false := by simp; omega
      have HS := Lib.hid (fun w' (hb : Below w.heap.size w w') => (show w'.cell? (y1.add j) = some (.int .u32 z1) ∧ w'.cell? (y2.add j) = some (.int .u32 z2) ∧ Below w.heap.size w w' from by
        obtain ⟨y, hy, _, e1⟩ := R1.out _ hb j z1 hz1
        obtain ⟨y', hy', _, e2⟩ := R2.out _ hb j z2 hz2
        cases hy; cases hy'
        exact ⟨e1, e2, hb⟩))
      have Z1 := Lib.hid hz1
      have Z2 := Lib.hid hz2
      clear hz1 hz2
      have B2 := Lib.hid (Below.drew BW.out)
      by_cases hz : z1 = z2
      · subst hz
        go_wp2_with fail
        go_region_held3 (fun w' => w'.cell? (y1.add j) = some (.int .u32 z1) ∧ w'.cell? (y2.add j) = some (.int .u32 z1) ∧ Below w.heap.size w w')
          (first
            | (exact HS.out _ (Below.drew BW.out))
            | assumption
            | fail)
          (first | fail)
        go_wp2_with fail
        go_roundw
        case rel => exact ⟨j + 1, by omega, by omega, by go_num, same_to HT.out Z1.out Z2.out, B2.out⟩
        case measure => simp [intOf]; omega
      · have hb : (z1 == z2) = false := by rw [beq_eq_false_iff_ne]; exact hz
        have hb2 : (z1 != z2) = true := by rw [bne_iff_ne]; exact hz
        have HZ := Lib.hid hz
        clear hz
        go_wp2_with fail
        go_region_held3 (fun w' => w'.cell? (y1.add j) = some (.int .u32 z1) ∧ w'.cell? (y2.add j) = some (.int .u32 z2) ∧ Below w.heap.size w w')
          (first
            | (exact HS.out _ (Below.drew BW.out))
            | assumption
            | fail)
          (first | fail)
        go_wp2_with fail
        go_ret
        exact ⟨ret_int (firstI_ne (other_at Z1.out Z2.out HZ.out) HT.out (by rw [H1.out]; omega) (by rw [H2.out]; omega) (.inr (.inr (by rw [Z1.out, Z2.out]; intro h; cases h; exact HZ.out rfl)))).symm, B2.out⟩
    · by_cases hend : j = n1 ∧ j = n2
      · obtain ⟨rfl, rfl⟩ := hend
        have HE := Lib.hid (same_all HT.out H1.out H2.out)
        go_wp2_with fail
        go_ret
        exact ⟨ret_int (by rw [HE.out, firstI_eq]), BW.out⟩
      · have hne : ¬ l1 = l2 := fun h => by have h1 := H1.out; have h2 := H2.out; rw [h] at h1; omega
        have HE := Lib.hid (show (j : Int) = firstI l1 l2 from (firstI_ne hne HT.out (by rw [H1.out]; omega) (by rw [H2.out]; omega) (by rw [H1.out, H2.out]; omega)).symm)
        have hor : (j = n1 ∧ n1 < n2) ∨ (j = n2 ∧ n2 < n1) := by omega
        clear hne hend hlt
        rcases hor with ⟨rfl, hh⟩ | ⟨rfl, hh⟩
        · have hh' : (j : Int) < (n2 : Int) := by omega
          go_wp2_with fail
          go_quiet (fail)
          have B3 := Lib.hid (fun n => below_drewN BW.out n)
          go_wp2_with fail
          go_ret
          exact ⟨ret_int HE.out, B3.out _⟩
        · have hh' : (j : Int) < (n1 : Int) := by omega
          have d1 : decide (n1 ≤ j) = false := by simp; omega
          have d3 : decide ((n1 : Int) ≤ (j : Int)) = false := by simp; omega
          go_wp2_with fail
          go_quiet (fail)
          have B3 := Lib.hid (fun n => below_drewN BW.out n)
          go_wp2_with fail
          go_ret
          exact ⟨ret_int HE.out, B3.out _⟩
end Go.Proofs.Ytlokilkhlhhjgaa.Vic
