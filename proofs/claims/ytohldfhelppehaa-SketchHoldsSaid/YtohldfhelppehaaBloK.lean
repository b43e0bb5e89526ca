/-
  Walks over the reference of layer 34: joins, words.
-/
import Derived.Test.YtohldfhelppehaaBloL
set_option linter.unusedVariables false
set_option linter.unusedSimpArgs false
namespace Go.Proofs.Ytohldfhelppehaa.Blo
open Go.RowKit Kit Hash
set_option maxRecDepth 100000 in
set_option maxHeartbeats 1000000 in
theorem rjoin_bad {W : World} {r n c r2 n2 c2 : Nat} {hs sd hs2 sd2 : Int} (hne : ¬ (n = n2 ∧ hs = hs2 ∧ sd = sd2)) :
    Calls Try.prog 25 #[rf hs sd r (64 * n) c, rf hs2 sd2 r2 (64 * n2) c2] W fun e w' => e = .returned (.tuple #[rf hs sd r (64 * n) c, .int .i64 10]) ∧ Below W.heap.size W w' := by
  go_enter Try.func25, Try.ntmps25
  by_cases e1 : n = n2
  · by_cases e2 : hs = hs2
    · have e3 : ¬ sd = sd2 := fun e => hne ⟨e1, e2, e⟩
      have e3' : (sd != sd2) = true := by simp [e3]
      subst e1 e2
      clear hne
      go_wp2_with fail
      refine bodyPost_ret (v := .tuple #[rf hs sd r (64 * n) c, .int .i64 10]) (by simp [results, Try.results25, go_sem]) rfl ⟨rfl, by go_grown⟩
    · have e2' : (hs != hs2) = true := by simp [e2]
      subst e1
      clear hne
      go_wp2_with fail
      refine bodyPost_ret (v := .tuple #[rf hs sd r (64 * n) c, .int .i64 10]) (by simp [results, Try.results25, go_sem]) rfl ⟨rfl, by go_grown⟩
  · have e1' : ((64 * (n : Int)) != (64 * (n2 : Int))) = true := by simp; omega
    clear hne
    go_wp2_with fail
    refine bodyPost_ret (v := .tuple #[rf hs sd r (64 * n) c, .int .i64 10]) (by simp [results, Try.results25, go_sem]) rfl ⟨rfl, by go_grown⟩
/-- word k, of whose bits those below place i are laid -/
def pw (s : Nat → Bool) (k i : Nat) : Nat := natOf (fun j => s (64 * k + j)) (min (i - 64 * k) 64)
theorem pw_zero (s : Nat → Bool) (k : Nat) : pw s k 0 = 0 := by unfold pw; rw [show min (0 - 64 * k) 64 = 0 by omega]; rfl
theorem pw_full (s : Nat → Bool) (k i : Nat) (h : 64 * (k + 1) ≤ i) : pw s k i = wd s k := by unfold pw; rw [show min (i - 64 * k) 64 = 64 by omega]; rfl
theorem pw_other (s : Nat → Bool) (k i : Nat) (h : k ≠ i / 64) : pw s k (i + 1) = pw s k i := by unfold pw; rw [show min (i + 1 - 64 * k) 64 = min (i - 64 * k) 64 by omega]
theorem pw_same (s : Nat → Bool) (i : Nat) : pw s (i / 64) (i + 1) = pw s (i / 64) i + (if s i then 2 ^ (i % 64) else 0) ∧ pw s (i / 64) i < 2 ^ (i % 64) := by
  unfold pw
  rw [show min (i + 1 - 64 * (i / 64)) 64 = i % 64 + 1 by omega, show min (i - 64 * (i / 64)) 64 = i % 64 by omega]
  refine ⟨?_, natOf_lt _ _⟩
  rw [natOf, show 64 * (i / 64) + i % 64 = i by omega]
theorem pw_val (s : Nat → Bool) (i : Nat) (h : s i = true) : IntKind.u64.wrap (((pw s (i / 64) i : Nat) : Int) + IntKind.u64.wrap (2 ^ (i % 64))) = ((pw s (i / 64) (i + 1) : Nat) : Int) := by
  obtain ⟨h1, h2⟩ := pw_same s i
  rw [if_pos h] at h1
  have hp : 2 ^ (i % 64) ≤ 2 ^ 63 := Nat.pow_le_pow_right (by decide) (by omega)
  have hp2 : (2 : Int) ^ (i % 64) = ((2 ^ (i % 64) : Nat) : Int) := by rw [Int.natCast_pow]; rfl
  rw [hp2]
  generalize 2 ^ (i % 64) = z at *
  rw [IntWalk.u64_in (z : Int) (by omega), IntWalk.u64_in _ (by omega)]
  omega
set_option maxRecDepth 100000 in
set_option maxHeartbeats 1000000 in
theorem rwordsR {W : World} {r n c : Nat} {hs sd : Int} {s : Nat → Bool} (h : Rr W r (64 * n) s) (n1 : 1 ≤ n) (n2 : n ≤ 16384) :
    Calls Try.prog 48 #[rf hs sd r (64 * n) c] W fun e w' => ∃ g, e = .returned (.slice (some ⟨g, 0, none⟩) n n) ∧ Fr w' g n s ∧ W.heap.size ≤ g ∧ Below W.heap.size W w' := by
  have HR := Lib.hid h
  have hmk := fun w => make_any (P := Try.prog) w 54 22 (.int .u64 0) 1 8 (by kernel_rfl) (by kernel_rfl) (n : Int) (by omega) (by omega) (by omega)
  have hd : (64 * (n : Int)).tdiv 64 = (n : Int) := by rw [Int.tdiv_eq_ediv_of_nonneg (by omega)]; omega
  have hd2 : (64 * (n : Int)) / 64 = (n : Int) := by omega
  have hw : wrap64 (n : Int) = (n : Int) := IntWalk.wrap64_in _ (by omega)
  clear h
  go_enter Try.func48, Try.ntmps48
  go_wp2_with fail
  have hb0 : Below (W.heap.size + 1) (W.alloc (rfO hs sd r (64 * n) c)) ((W.alloc (rfO hs sd r (64 * n) c)).alloc (.cells (madeCells #[.int .u64 0] n) 22)) := (Below.refl _ _).alloc (by simp) _
  have hr0 : Row ((W.alloc (rfO hs sd r (64 * n) c)).alloc (.cells (madeCells #[.int .u64 0] n) 22)) (W.heap.size + 1) n 22 (fun k => .int .u64 (pw s k 0 : Nat)) := by
    have := (Row.made (W.alloc (rfO hs sd r (64 * n) c)) (.int .u64 0) rfl n 22)
    rw [World.size_alloc] at this
    exact this.congr fun i _ => by rw [pw_zero]; rfl
  have HB0 := Lib.hid hb0
  have HR0 := Lib.hid hr0
  clear hb0 hr0
  go_loopw [4] (fun i wr => ∃ j : Nat, j ≤ 64 * n ∧ i = .int .i64 j ∧ Row wr (W.heap.size + 1) n 22 (fun k => .int .u64 (pw s k j : Nat)) ∧ Below (W.heap.size + 1) (W.alloc (rfO hs sd r (64 * n) c)) wr) (fun i _ => 64 * n - (intOf i).toNat)
  case atStart => exact ⟨0, by omega, rfl, HR0.out, HB0.out⟩
  case round =>
    obtain ⟨j, hj, rfl, hR, bW⟩ := hrel
    obtain ⟨-, -, c2⟩ := rf_cells bW
    have HRR := Lib.hid hR
    have HB := Lib.hid bW
    clear hR bW HB0 HR0
    by_cases hlt : j < 64 * n
    · have kr := (HR.out.below (rf_below HB.out)).cell j hlt
      have hlt2 : (j : Int) < 64 * (n : Int) := by omega
      have HO := Lib.hid (fun k (h : k ≠ j / 64) => pw_other s k j h)
      cases hs0 : s j
      · rw [hs0] at kr
        have HS := Lib.hid (show pw s (j / 64) (j + 1) = pw s (j / 64) j by have := (pw_same s j).1; rw [hs0] at this; simpa using this)
        go_wp2_with fail
        go_roundw
        case rel =>
          refine ⟨j + 1, by omega, by go_num, HRR.out.congr fun i hi => ?_, HB.out⟩
          by_cases h : i = j / 64
          · subst h; rw [HS.out]
          · rw [HO.out i h]
        case measure => simp [intOf] <;> omega
      · rw [hs0] at kr
        have HV := Lib.hid (pw_val s j hs0)
        have kg := HRR.out.cell (j / 64) (by omega)
        have fg := HRR.out.fr (j / 64)
        have hk2 : j / 64 < n := by omega
        have hk3 : (j : Int) / 64 < (n : Int) := by omega
        have hk4 : ((j : Int) / 64).toNat = j / 64 := by omega
        have hk5 : 0 ≤ (j : Int) / 64 := by omega
        have hk6 : (j : Int).tdiv 64 = (j : Int) / 64 := Int.tdiv_eq_ediv_of_nonneg (by omega)
        have hk7 : IntKind.i64.wrap ((j : Int) / 64) = (j : Int) / 64 := IntWalk.i64_in _ (by omega)
        have hk8 : (j : Int).tmod 64 = (j : Int) % 64 := Int.tmod_eq_emod_of_nonneg (by omega)
        have hk9 : IntKind.i64.wrap ((j : Int) % 64) = (j : Int) % 64 := IntWalk.i64_in _ (by omega)
        go_wp2_with fail
        go_region
        go_wp2_with fail
        go_roundw
        case rel =>
          refine ⟨j + 1, by omega, by go_num, ?_, Below.drew (HB.out.setCell (p := ⟨W.heap.size + 1, _, none⟩) (Nat.le_refl _) _)⟩
          rw [HV.out]
          refine Row.of_block (W := wr.setCell ⟨W.heap.size + 1, j / 64, none⟩ (.int .u64 (pw s (j / 64) (j + 1) : Nat))) ((HRR.out.set (j / 64) _).congr fun i hi => ?_) rfl
          by_cases h : i = j / 64
          · subst h; simp
          · simp only [h, if_false]; rw [HO.out i h]
        case measure => simp [intOf] <;> omega
    · have hlt2 : ¬ (j : Int) < 64 * (n : Int) := by omega
      obtain rfl : j = 64 * n := by omega
      go_wp2_with fail
      go_ret
      refine ⟨_, rfl, HRR.out.congr fun i hi => ?_, by omega, rf_below HB.out⟩
      rw [pw_full s i _ (by omega)]
end Go.Proofs.Ytohldfhelppehaa.Blo
