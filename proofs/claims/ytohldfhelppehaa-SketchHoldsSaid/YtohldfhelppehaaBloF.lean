/-
  The law of layer 34 on places.
-/
import Derived.Test.YtohldfhelppehaaBloG
set_option linter.unusedVariables false
set_option linter.unusedSimpArgs false
namespace Go.Proofs.Ytohldfhelppehaa.Blo
open Go.RowKit Kit Hash
theorem cnt_empty (m : Nat) : cnt (fun _ => false) m = 0 := by
  induction m with
  | zero => rfl
  | succ m ih => rw [cnt, ih]; rfl
theorem cnt_pos {s : Nat → Bool} {k m : Nat} (hk : k < m) (h : s k = true) : 1 ≤ cnt s m := by
  have h1 : cnt s (k + 1) = cnt s k + 1 := by rw [cnt, h]; rfl
  have h2 := cnt_add s (k + 1) (m - (k + 1))
  rw [show k + 1 + (m - (k + 1)) = m by omega] at h2
  omega
theorem all_ins (s : Nat → Bool) (l : List Nat) : l.all (insL s l) = true := by
  rw [List.all_eq_true]; intro x hx; rw [insL_mem]; simp [hx]
theorem all_empty {x m h : Nat} (hh : 1 ≤ h) : (pls x m h).all (fun _ => false) = false := by
  rw [List.all_eq_false]
  exact ⟨pl x m 0, List.mem_map.2 ⟨0, List.mem_range.2 (by omega), rfl⟩, by simp⟩
theorem first_mem (s : Nat → Bool) {x m h : Nat} (hh : 1 ≤ h) : insL s (pls x m h) (pl x m 0) = true := by
  rw [insL_mem]
  have : pl x m 0 ∈ pls x m h := List.mem_map.2 ⟨0, List.mem_range.2 (by omega), rfl⟩
  simp [this]
set_option maxRecDepth 100000 in
set_option maxHeartbeats 2000000 in
theorem lplaces_any {W : World} {b hs sd : Int} (hin : In b hs) (hsd : Word sd) (k : ByteArray) (hkm : k.size ≤ maxLen) (hk : Kn W) :
    Calls Try.prog 4 #[.int .i64 b, .int .i64 hs, .int .u64 sd, .string k] W fun e w' => e = .returned (.bool true) ∧ Below W.heap.size W w' := by
  have HK := Lib.hid hk
  have HKM := Lib.hid hkm
  clear hk hkm
  cases ha : alw b hs
  · have HR := Lib.hid (fun w => rnew_bad (W := w) (sd := sd) hin ha)
    have HA := Lib.hid ha
    clear ha
    go_enter Try.func4, Try.ntmps4
    go_wp2_with fail
    refine (HR.out _).mono ?_
    rintro e w1 ⟨rfl, b1⟩
    have B1 := Lib.hid b1
    clear b1
    go_wp2_with fail
    refine (HK.out _ (tr B1.out (by go_grown))).mono ?_
    rintro e w3 ⟨rfl, b3⟩
    go_wp2_with fail
    go_ret
    exact ⟨rfl, tr (tr B1.out (by go_grown)) b3⟩
  · obtain ⟨n, hbn, ok⟩ := Ok.of ha hsd
    have HR := Lib.hid (fun w => rnew_ok (W := w) (sd := sd) hin ha hbn)
    have HOK := Lib.hid ok
    have HBN := Lib.hid hbn
    clear ok hbn ha
    go_enter Try.func4, Try.ntmps4
    go_wp2_with fail
    refine (HR.out _).mono ?_
    rintro e w1 ⟨r, rfl, hr, hg, b1⟩
    have HR1 := Lib.hid hr
    have B1 := Lib.hid b1
    clear hr b1
    by_cases hbig : 300 < k.size
    · go_wp2_with fail
      have B2 := Lib.hid (tr B1.out (by go_grown : Below w1.heap.size w1 (w1.alloc (rfO hs sd r (64 * n) (64 * n)))))
      refine (HK.out _ B2.out).mono ?_
      rintro e w2 ⟨rfl, b2⟩
      go_wp2_with fail
      go_ret
      exact ⟨rfl, tr B2.out b2⟩
    · go_wp2_with fail
      refine (new_ok HOK.out HBN.out _).mono ?_
      rintro e w2 ⟨p, q, rfl, hf, hp, hq, b2⟩
      obtain ⟨x0, x1, x2, x3, x4⟩ := box3 b2
      have B2 := Lib.hid x4
      have HF := Lib.hid hf
      have hsz := B1.out.size
      simp only [World.size_alloc] at hp hq
      clear hf b2 x4
      go_wp2_with fail
      refine (rplaces2 HOK.out k HKM.out).mono ?_
      rintro e w3 ⟨g3, c3, rfl, hr3, b3⟩
      have HR3 := Lib.hid hr3
      have B3 := Lib.hid b3
      clear hr3 b3
      go_wp2_with fail
      refine (places_any (HF.out.below B3.out) HOK.out k HKM.out HR3.out).mono ?_
      rintro e w4 ⟨rfl, b4⟩
      have B4 := Lib.hid b4
      clear b4
      go_wp2_with fail
      refine (adds_any ((HF.out.below B3.out).below B4.out) HOK.out k HKM.out true).mono ?_
      rintro e w5 ⟨rfl, hf5, b5⟩
      have HF5 := Lib.hid hf5
      have B5 := Lib.hid b5
      clear hf5 b5
      have h1 := HOK.out.h1
      rw [all_empty (show 1 ≤ hs.toNat by omega)]
      have n1 := HOK.out.n1
      have hc1 := cnt_pos (m := 64 * n) (pl_lt (x := sumN sd k) (m := 64 * n) (i := 0) (by omega)) (first_mem (fun _ => false) (x := sumN sd k) (m := 64 * n) (show 1 ≤ hs.toNat by omega))
      have hc2 := cnt_insL (fun _ => false) (pls (sumN sd k) (64 * n) hs.toNat) (64 * n)
      rw [cnt_empty, pls_length] at hc2
      have hc3 : ((cnt (insL (fun _ => false) (pls (sumN sd k) (64 * n) hs.toNat)) (64 * n) : Nat) : Int) ≤ hs := by omega
      have HALL := Lib.hid (all_ins (fun _ => false) (pls (sumN sd k) (64 * n) hs.toNat))
      have B := Lib.hid (show Below W.heap.size W w5 from (tr (tr (tr B1.out B2.out) B3.out) B4.out).trans (B5.out.below (by omega) (by have := B4.out.size; have := B3.out.size; have := B2.out.size; omega)))
      generalize insL (fun _ => false) (pls (sumN sd k) (64 * n) hs.toNat) = S at *
      generalize hcc : cnt S (64 * n) = cc at *
      have HCC := Lib.hid hcc
      clear hcc
      go_wp2_with fail
      refine (hasR HF5.out HOK.out k HKM.out).mono ?_
      rintro e w6 ⟨rfl, b6⟩
      rw [HALL.out]
      have B6 := Lib.hid b6
      clear b6
      go_wp2_with fail
      refine (onesR (HF5.out.below B6.out) HOK.out).mono ?_
      rintro e w7 ⟨rfl, rfl⟩
      rw [HCC.out]
      go_wp2_with fail
      refine (onesR (HF5.out.below B6.out) HOK.out).mono ?_
      rintro e w7 ⟨rfl, rfl⟩
      rw [HCC.out]
      go_wp2_with fail
      refine (HK.out _ (tr B.out B6.out)).mono ?_
      rintro e w4 ⟨rfl, b7⟩
      go_wp2_with fail
      go_ret
      exact ⟨rfl, tr (tr B.out B6.out) b7⟩
end Go.Proofs.Ytohldfhelppehaa.Blo
