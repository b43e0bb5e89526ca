/-
  Configurations (layer 23): checks and parsing.
-/
import Derived.Test.YtckibgpmncggaaaDoorCfgN
set_option linter.unusedVariables false
set_option linter.unusedSimpArgs false
namespace Go.Proofs.YtckibgpmncggaaaDoor.Cfg
open Go Go.RowKit Kit
set_option maxHeartbeats 1000000 in
theorem checks_law (a b c d : Int) (y : Bool) (d0 : 0 ≤ d) (d1 : d < 18446744073709551616) (w : World) (hv : Vars w) :
    Calls Tryd.prog 4 #[conf a b c d y] w fun e w' => e = .returned (.bool true) ∧ Below w.heap.size w w' := by
  have HC := Lib.hid (fun w => check_any a b c d y w)
  have HRC := Lib.hid (fun w => rcheck_any a b c d y w)
  have HV := Lib.hid (fun w => valid_any a b c d y w)
  have HK := Lib.hid (fun w1 (h : Below w.heap.size w w1) => known_any w1 (hv.below h))
  obtain ⟨V, hV⟩ : ∃ V, w.alloc (.cells (cells a b c d y) 32) = V := ⟨_, rfl⟩
  have hwV : Below w.heap.size w V := by rw [← hV]; go_grown
  have HS := Lib.hid (show ∀ w1, Below V.heap.size V w1 → (w1.cell? ⟨w.heap.size, 0, none⟩ = some (.int .i64 a) ∧ w1.cell? ⟨w.heap.size, 1, none⟩ = some (.int .i64 b) ∧ w1.cell? ⟨w.heap.size, 2, none⟩ = some (.int .i64 c) ∧ w1.cell? ⟨w.heap.size, 3, none⟩ = some (.int .u64 d) ∧ w1.cell? ⟨w.heap.size, 4, none⟩ = some (.bool y) ∧ Below V.heap.size V w1) from by
    intro w1 h
    have hq : BoxA V w.heap.size 32 (cells a b c d y) := by rw [← hV]; exact BoxA.new _ _ _
    obtain ⟨c0, c1, c2, c3, c4, -⟩ := (hq.below h).five
    exact ⟨c0, c1, c2, c3, c4, h⟩)
  have HV1 := Lib.hid hV
  have HWV := Lib.hid hwV
  have hX := Below.refl V.heap.size V
  by_cases hc : ck a b c = 0
  · obtain ⟨q1, q2, q3, q4, q5, q6⟩ := ck_ok hc
    have hpt := part_ok a b c d y hc
    have HP := Lib.hid (fun w => parts_true (a := a) (b := b) (c := c) (d := d) (y := y) (n := part b c) (r := 0) (by rw [if_pos hc]; exact ⟨rfl, rfl⟩) w)
    have HRP := Lib.hid (fun w => rpart_any a b c d y hc w)
    have HT := Lib.hid (fun w1 => rtext_any a.toNat b.toNat c.toNat d.toNat y (by omega) (by omega) (by omega) (by omega) w1)
    rw [Int.toNat_of_nonneg (by omega), Int.toNat_of_nonneg (by omega), Int.toNat_of_nonneg (by omega), Int.toNat_of_nonneg d0] at HT
    have HW := Lib.hid (fun w1 (h : Below w.heap.size w w1) => writes_ok (a := a) (b := b) (c := c) (d := d) (y := y) hc d0 d1 rfl w1 (hv.below h))
    rw [hc] at HC HRC HV
    rw [show ((0 : Int) == 0) = true from rfl] at HV
    generalize str (T a.toNat b.toNat c.toNat d.toNat y) = z at *
    generalize part b c = n at *
    clear hc hpt hv hV hwV q1 q2 q3 q4 q5 q6
    go_enter Tryd.func4, Tryd.ntmps4
    go_wp2_with fail
    rw [HV1.out]
    obtain ⟨k0, k1, k2, k3, k4, -⟩ := HS.out _ hX
    go_wp2_with (first
      | (go_at_call 14; refine (HRC.out _).mono ?_; rintro e w4 ⟨rfl, o1⟩; replace hX := tr hX o1; clear o1 k0 k1 k2 k3 k4; obtain ⟨k0, k1, k2, k3, k4, -⟩ := HS.out _ hX)
      | (go_at_call 15; refine (HC.out _).mono ?_; rintro e w4 ⟨rfl, o1⟩; replace hX := tr hX o1; clear o1 k0 k1 k2 k3 k4; obtain ⟨k0, k1, k2, k3, k4, -⟩ := HS.out _ hX)
      | (go_at_call 16; refine (HV.out _).mono ?_; rintro e w4 ⟨rfl, o1⟩; replace hX := tr hX o1; clear o1 k0 k1 k2 k3 k4; obtain ⟨k0, k1, k2, k3, k4, -⟩ := HS.out _ hX)
      | (go_at_call 20; refine (HRP.out _).mono ?_; rintro e w4 ⟨rfl, o1⟩; replace hX := tr hX o1; clear o1 k0 k1 k2 k3 k4; obtain ⟨k0, k1, k2, k3, k4, -⟩ := HS.out _ hX)
      | (go_at_call 17; refine (HP.out _).mono ?_; rintro e w4 ⟨rfl, o1⟩; replace hX := tr hX o1; clear o1 k0 k1 k2 k3 k4; obtain ⟨k0, k1, k2, k3, k4, -⟩ := HS.out _ hX)
      | fail)
    clear k0 k1 k2 k3 k4
    go_region_held3 (fun w' => w'.cell? ⟨w.heap.size, 0, none⟩ = some (.int .i64 a) ∧ w'.cell? ⟨w.heap.size, 1, none⟩ = some (.int .i64 b) ∧ w'.cell? ⟨w.heap.size, 2, none⟩ = some (.int .i64 c) ∧ w'.cell? ⟨w.heap.size, 3, none⟩ = some (.int .u64 d) ∧ w'.cell? ⟨w.heap.size, 4, none⟩ = some (.bool y) ∧ Below V.heap.size V w')
      (first
        | (exact HS.out _ (Below.drew hX))
        | assumption
        | (exact HS.out _ (tr (by assumption : _ ∧ _ ∧ _ ∧ _ ∧ _ ∧ Below V.heap.size V _).2.2.2.2.2 o1))
        | fail)
      (first
        | (go_at_call 20; refine (HRP.out _).mono ?_; rintro e w' ⟨rfl, o1⟩)
        | (go_at_call 17; refine (HP.out _).mono ?_; rintro e w' ⟨rfl, o1⟩)
        | (go_at_call 21; refine (HT.out _).mono ?_; rintro e w' ⟨rfl, o1⟩)
        | (go_at_call 18; refine (HW.out _ (tr HWV.out (by assumption : _ ∧ _ ∧ _ ∧ _ ∧ _ ∧ Below V.heap.size V _).2.2.2.2.2)).mono ?_; rintro e w' ⟨rfl, o1⟩)
        | (go_at_call 19; refine (HK.out _ (tr HWV.out (by assumption : _ ∧ _ ∧ _ ∧ _ ∧ _ ∧ Below V.heap.size V _).2.2.2.2.2)).mono ?_; rintro e w' ⟨rfl, o1⟩)
        | fail)
    all_goals
      have hE := (by assumption : _ ∧ _ ∧ _ ∧ _ ∧ _ ∧ Below V.heap.size V _).2.2.2.2.2
      have HE := Lib.hid (tr HWV.out hE)
      clear hE
      go_wp2_with fail
      go_ret
      exact ⟨rfl, HE.out⟩
  · have HP := Lib.hid (fun w => parts_true (a := a) (b := b) (c := c) (d := d) (y := y) (n := 0) (r := ck a b c) (by rw [if_neg hc]; exact ⟨rfl, rfl⟩) w)
    have HW := Lib.hid (fun w1 (h : Below w.heap.size w w1) => writes_bad (a := a) (b := b) (c := c) (d := d) (y := y) hc rfl w1)
    have hr : (ck a b c == 0) = false := by rw [beq_eq_false_iff_ne]; exact hc
    have hr2 : (ck a b c != 0) = true := by rw [bne, hr]; rfl
    rw [hr] at HV
    have HRP := Lib.hid True.intro
    generalize ck a b c = r at *
    clear hc hv hV hwV
    go_enter Tryd.func4, Tryd.ntmps4
    go_wp2_with fail
    rw [HV1.out]
    obtain ⟨k0, k1, k2, k3, k4, -⟩ := HS.out _ hX
    go_wp2_with (first
      | (go_at_call 14; refine (HRC.out _).mono ?_; rintro e w4 ⟨rfl, o1⟩; replace hX := tr hX o1; clear o1 k0 k1 k2 k3 k4; obtain ⟨k0, k1, k2, k3, k4, -⟩ := HS.out _ hX)
      | (go_at_call 15; refine (HC.out _).mono ?_; rintro e w4 ⟨rfl, o1⟩; replace hX := tr hX o1; clear o1 k0 k1 k2 k3 k4; obtain ⟨k0, k1, k2, k3, k4, -⟩ := HS.out _ hX)
      | (go_at_call 16; refine (HV.out _).mono ?_; rintro e w4 ⟨rfl, o1⟩; replace hX := tr hX o1; clear o1 k0 k1 k2 k3 k4; obtain ⟨k0, k1, k2, k3, k4, -⟩ := HS.out _ hX)
      | (go_at_call 18; refine (HW.out _ (tr HWV.out hX)).mono ?_; rintro e w4 ⟨rfl, o1⟩; replace hX := tr hX o1; clear o1 k0 k1 k2 k3 k4; obtain ⟨k0, k1, k2, k3, k4, -⟩ := HS.out _ hX)
      | (go_at_call 19; refine (HK.out _ (tr HWV.out hX)).mono ?_; rintro e w4 ⟨rfl, o1⟩; replace hX := tr hX o1; clear o1 k0 k1 k2 k3 k4; obtain ⟨k0, k1, k2, k3, k4, -⟩ := HS.out _ hX)
      | (go_at_call 17; refine (HP.out _).mono ?_; rintro e w4 ⟨rfl, o1⟩; replace hX := tr hX o1; clear o1 k0 k1 k2 k3 k4; obtain ⟨k0, k1, k2, k3, k4, -⟩ := HS.out _ hX)
      | fail)
    go_ret
    exact ⟨rfl, tr HWV.out hX⟩
theorem str_of (S : ByteArray) : str S.data.toList = S := by
  apply ByteArray.ext
  simp [str]
set_option maxHeartbeats 1000000 in
theorem parses_law (S : ByteArray) (hS : S.size ≤ maxLen) (w : World) (hv : Vars w) :
    Calls Tryd.prog 5 #[.string S] w fun e w' => e = .returned (.bool true) ∧ Below w.heap.size w w' := by
  have HK := Lib.hid (fun w1 (h : Below w.heap.size w w1) => known_any w1 (hv.below h))
  by_cases hl : S.size ≤ 200
  · have hl' : ¬ (200 : Int) < (S.size : Int) := by omega
    obtain ⟨s, rfl⟩ : ∃ s, S = str s := ⟨_, (str_of S).symm⟩
    rw [str_size] at hl
    have HRP := Lib.hid (fun w => rparse_any s (by omega) w)
    have HP := Lib.hid (fun (a b c d : Int) (y : Bool) (r : Int) (hp : pres s = .tuple #[conf a b c d y, .int .i64 r]) w1 (h : Below w.heap.size w w1) => parses_true (S := str s) (a := a) (b := b) (c := c) (d := d) (y := y) (r := r) ⟨s, rfl, by omega, hp⟩ w1 (hv.below h))
    clear hv
    go_enter Tryd.func5, Tryd.ntmps5
    go_wp2_with fail
    refine (HRP.out _).mono ?_
    rintro e w1 ⟨V, bb, rfl, hRP, b1⟩
    have hp := pres_RP hRP
    obtain ⟨a, b, c, d, y, rfl⟩ := hRP.conf
    have B1 := Lib.hid b1
    cases bb with
    | true =>
      have HQ := Lib.hid (HP.out a b c d y 0 hp)
      clear hRP hp HP b1
      go_wp2_with fail
      refine (HQ.out _ (tr B1.out (by go_grown))).mono ?_
      rintro e w2 ⟨rfl, b2⟩
      have B2 := Lib.hid (tr (tr B1.out (by go_grown)) b2)
      clear b2
      go_wp2_with fail
      refine (HK.out _ B2.out).mono ?_
      rintro e w3 ⟨rfl, b3⟩
      go_wp2_with fail
      go_ret
      exact ⟨rfl, tr B2.out b3⟩
    | false =>
      have h0 : conf a b c d y = conf 0 0 0 0 false := by
        rcases hRP with ⟨_, _, _, _, _, _, _, _, _, h⟩ | ⟨h, _, _⟩
        · cases h
        · exact h
      rw [h0] at hp
      rw [h0]
      have HQ := Lib.hid (HP.out 0 0 0 0 false 6 hp)
      clear hRP hp HP b1
      go_wp2_with fail
      refine (HQ.out _ (tr B1.out (by go_grown))).mono ?_
      rintro e w2 ⟨rfl, b2⟩
      have B2 := Lib.hid (tr (tr B1.out (by go_grown)) b2)
      clear b2
      go_wp2_with fail
      refine (HK.out _ B2.out).mono ?_
      rintro e w3 ⟨rfl, b3⟩
      go_wp2_with fail
      go_ret
      exact ⟨rfl, tr B2.out b3⟩
  · have hl' : (200 : Int) < (S.size : Int) := by omega
    clear hv
    go_enter Tryd.func5, Tryd.ntmps5
    go_wp2_with fail
    refine (HK.out _ (Below.refl _ _)).mono ?_
    rintro e w3 ⟨rfl, b3⟩
    go_wp2_with fail
    go_ret
    exact ⟨rfl, b3⟩
end Go.Proofs.YtckibgpmncggaaaDoor.Cfg
