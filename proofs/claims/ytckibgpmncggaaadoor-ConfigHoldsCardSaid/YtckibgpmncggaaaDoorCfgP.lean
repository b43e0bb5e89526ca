/-
  Configurations (layer 23): the stage's theorem.
-/
import Derived.Test.YtckibgpmncggaaaDoorCfgO
set_option linter.unusedVariables false
set_option linter.unusedSimpArgs false
namespace Go.Proofs.YtckibgpmncggaaaDoor.Cfg
open Go Go.RowKit Kit
theorem part_lt {b c : Int} (b0 : 1 ≤ b) (c0 : 0 ≤ c) (c1 : c ≤ 99) : part b c < b ∧ part b c ≤ b - b / 100 ∧ (part b c = -1 ↔ c = 0) ∧ -1 ≤ part b c := by
  unfold part
  split
  · rename_i h; subst h; refine ⟨by omega, by omega, by simp, by omega⟩
  · have h1 : b * c ≤ b * 99 := Int.mul_le_mul_of_nonneg_left c1 (by omega)
    have h2 : 0 ≤ b * c := Int.mul_nonneg (by omega) c0
    generalize b * c = m at *
    exact ⟨by omega, by omega, by omega, by omega⟩
theorem part_mono {b b' c c' : Int} (b0 : 1 ≤ b) (c0 : 0 ≤ c) (hb : b ≤ b') (hc : c ≤ c') (h0 : c = 0 ↔ c' = 0) : part b c ≤ part b' c' := by
  unfold part
  by_cases h : c = 0
  · rw [if_pos h, if_pos (h0.1 h)]; exact Int.le_refl _
  · rw [if_neg h, if_neg (fun h1 => h (h0.2 h1))]
    have h1 : b * c ≤ b' * c' := Int.mul_le_mul hb hc c0 (by omega)
    generalize b * c = m at *
    generalize b' * c' = m' at *
    omega
set_option maxHeartbeats 4000000 in
theorem holds_law (a b c d : Int) (y : Bool) (n m p : Int) (d0 : 0 ≤ d) (d1 : d < 18446744073709551616) (w : World) (hv : Vars w) :
    Calls Tryd.prog 8 #[conf a b c d y, .int .i64 n, .int .i64 m, .int .i64 p] w fun e w' => e = .returned (.bool true) ∧ Below w.heap.size w w' := by
  have HRC := Lib.hid (fun w => rcheck_any a b c d y w)
  have HRP := Lib.hid (fun w => rcheck_any a b p d y w)
  have HK := Lib.hid (fun w1 (h : Below w.heap.size w w1) => known_any w1 (hv.below h))
  obtain ⟨V, hV⟩ : ∃ V, w.alloc (.cells (cells a b c d y) 32) = V := ⟨_, rfl⟩
  have hwV : Below w.heap.size w V := by rw [← hV]; go_grown
  have HS := Lib.hid (show ∀ w1, Below V.heap.size V w1 → (w1.cell? ⟨w.heap.size, 0, none⟩ = some (.int .i64 a) ∧ w1.cell? ⟨w.heap.size, 1, none⟩ = some (.int .i64 b) ∧ w1.cell? ⟨w.heap.size, 2, none⟩ = some (.int .i64 c) ∧ w1.cell? ⟨w.heap.size, 3, none⟩ = some (.int .u64 d) ∧ w1.cell? ⟨w.heap.size, 4, none⟩ = some (.bool y) ∧ Below V.heap.size V w1) from by
    intro w1 h
    have hq : BoxA V w.heap.size 32 (cells a b c d y) := by rw [← hV]; exact BoxA.new _ _ _
    obtain ⟨c0, c1, c2, c3, c4, -⟩ := (hq.below h).five
    exact ⟨c0, c1, c2, c3, c4, h⟩)
  have HV1 := Lib.hid hV
  have HWV := Lib.hid hwV
  have HLV := Lib.hid (show w.heap.size < V.heap.size from by rw [← hV]; simp)
  have hX := Below.refl V.heap.size V
  by_cases hc : ck a b c = 0
  · obtain ⟨q1, q2, q3, q4, q5, q6⟩ := ck_ok hc
    have HT := Lib.hid (fun w1 (h : Below w.heap.size w w1) => text_ok a b c d y hc d0 d1 w1 (hv.below h).tab (hv.below h).wds)
    have HPS := Lib.hid (fun w1 (h : Below w.heap.size w w1) => parses_true (S := str (T a.toNat b.toNat c.toNat d.toNat y)) (a := a) (b := b) (c := c) (d := d) (y := y) (r := 0) ⟨_, rfl, by
        have := dig_len a.toNat (by omega); have := dig_len b.toNat (by omega); have := dig_len c.toNat (by omega); have := dig_len d.toNat (by omega)
        unfold T
        simp only [List.length_append]
        simp only [Cfg.w0, Cfg.w1, Cfg.w2, Cfg.w3, Cfg.w4, List.length_cons, List.length_nil]
        cases y <;> simp [yes, no] <;> omega, by
        have h := pres_some (s := T a.toNat b.toNat c.toNat d.toNat y) (a := a.toNat) (b := b.toNat) (c := c.toNat) (d := d.toNat) (y := y) (by rw [Int.toNat_of_nonneg (by omega), Int.toNat_of_nonneg (by omega), Int.toNat_of_nonneg (by omega)]; exact hc) (by omega) rfl
        rw [Int.toNat_of_nonneg (by omega), Int.toNat_of_nonneg (by omega), Int.toNat_of_nonneg (by omega), Int.toNat_of_nonneg d0] at h
        exact h⟩ w1 (hv.below h))
    have hz0 : rzE a b c a b = 0 := by unfold rzE; rw [if_pos hc]; exact hc
    have HRZ := Lib.hid (fun w => resizes_conf a b c d y a b a b c d y 0 (if_pos hz0) hz0 w)
    have HPT := Lib.hid (fun w => part_ok a b c d y hc w)
    have HRS := Lib.hid (fun w => resize_any a b c d y n m w)
    have hpl := part_lt (b := b) (c := c) (by omega) q5 q6
    generalize str (T a.toNat b.toNat c.toNat d.toNat y) = z at *
    have HCK := Lib.hid hc
    rw [hc] at HRC
    clear hc hv hV hwV hz0
    have t1 : b.tdiv 100 = b / 100 := Int.tdiv_eq_ediv_of_nonneg (by omega)
    have u1 : IntKind.i64.wrap (b / 100) = b / 100 := wrap64 _ (by omega) (by omega)
    have u2 : IntKind.i64.wrap (b - b / 100) = b - b / 100 := wrap64 _ (by omega) (by omega)
    obtain ⟨hN1, hN2, hN3, hN0⟩ := hpl
    have hN1' : ¬ b ≤ part b c := by omega
    have hN2' : ¬ b - b / 100 < part b c := by omega
    have hN4 : ((part b c == -1) == (c == 0)) = true := by
      by_cases h : c = 0
      · rw [hN3.2 h, h]; rfl
      · have h1 : (part b c == -1) = false := by rw [beq_eq_false_iff_ne]; exact fun h2 => h (hN3.1 h2)
        have h2 : (c == 0) = false := by rw [beq_eq_false_iff_ne]; exact h
        rw [h1, h2]; rfl
    have hN5 : ((part b c == -1) != (c == 0)) = false := by rw [bne, hN4]; rfl
    have HMO := Lib.hid (fun b' c' hb hc' h0 => part_mono (b := b) (b' := b') (c := c) (c' := c') (by omega) q5 hb hc' h0)
    generalize hNN : part b c = N at *
    have HNN := Lib.hid hNN
    clear hNN hN3
    go_enter Tryd.func8, Tryd.ntmps8
    go_wp2_with fail
    rw [HV1.out]
    obtain ⟨k0, k1, k2, k3, k4, -⟩ := HS.out _ hX
    go_wp2_with (first
      | (go_at_call 14; refine (HRC.out _).mono ?_; rintro e w4 ⟨rfl, o1⟩; replace hX := tr hX o1; clear o1 k0 k1 k2 k3 k4; obtain ⟨k0, k1, k2, k3, k4, -⟩ := HS.out _ hX)
      | (go_at_call 26; refine (HT.out _ (tr HWV.out hX)).mono ?_; rintro e w4 ⟨rfl, o1⟩; replace hX := tr hX o1; clear o1 k0 k1 k2 k3 k4; obtain ⟨k0, k1, k2, k3, k4, -⟩ := HS.out _ hX)
      | (go_at_call 23; refine (HPS.out _ (tr HWV.out hX)).mono ?_; rintro e w4 ⟨rfl, o1⟩; replace hX := tr hX o1; clear o1 k0 k1 k2 k3 k4; obtain ⟨k0, k1, k2, k3, k4, -⟩ := HS.out _ hX)
      | (go_at_call 25; refine (HRZ.out _).mono ?_; rintro e w4 ⟨rfl, o1⟩; replace hX := tr hX o1; clear o1 k0 k1 k2 k3 k4; obtain ⟨k0, k1, k2, k3, k4, -⟩ := HS.out _ hX)
      | (go_at_call 27; refine (HPT.out _).mono ?_; rintro e w4 ⟨rfl, o1⟩; replace hX := tr hX o1; clear o1 k0 k1 k2 k3 k4; obtain ⟨k0, k1, k2, k3, k4, -⟩ := HS.out _ hX)
      | fail)
    by_cases hrz : rzE a b c n m = 0
    · have hck2 : ck n m c = 0 := by
        have := hrz
        unfold rzE at this
        rwa [if_pos HCK.out] at this
      have hz2 : rzE n m c a b = 0 := by unfold rzE; rw [if_pos hck2]; exact HCK.out
      have HR2 := Lib.hid (fun w => resizes_conf n m c d y a b a b c d y 0 (if_pos hz2) hz2 w)
      have HP2 := Lib.hid (fun w => part_ok n m c d y hck2 w)
      have hmn : b ≤ m → N ≤ part m c := fun h => HMO.out m c h (Int.le_refl _) Iff.rfl
      generalize part m c = M at *
      rw [if_pos hrz, hrz] at HRS
      clear hz2 hrz hck2
      refine (HRS.out _).mono ?_
      rintro e w5 ⟨rfl, o1⟩
      replace hX := tr hX o1
      clear o1 k0 k1 k2 k3 k4
      obtain ⟨k0, k1, k2, k3, k4, -⟩ := HS.out _ hX
      have HX5 := Lib.hid hX
      have hX2 := tr hX ((Below.refl w5.heap.size w5).alloc (Nat.le_refl _) (.cells (cells n m c d y) 32))
      have q5 := BoxA.new w5 32 (cells n m c d y)
      have HWX := Lib.hid (tr HWV.out hX2)
      obtain ⟨X, hXX⟩ : ∃ X, w5.alloc (.cells (cells n m c d y) 32) = X := ⟨_, rfl⟩
      have HXX := Lib.hid hXX
      have HS2 := Lib.hid (show ∀ w', Below X.heap.size X w' → (w'.cell? ⟨w.heap.size, 0, none⟩ = some (.int .i64 a) ∧ w'.cell? ⟨w.heap.size, 1, none⟩ = some (.int .i64 b) ∧ w'.cell? ⟨w.heap.size, 2, none⟩ = some (.int .i64 c) ∧ w'.cell? ⟨w.heap.size, 3, none⟩ = some (.int .u64 d) ∧ w'.cell? ⟨w.heap.size, 4, none⟩ = some (.bool y)) ∧ (w'.cell? ⟨w5.heap.size, 0, none⟩ = some (.int .i64 n) ∧ w'.cell? ⟨w5.heap.size, 1, none⟩ = some (.int .i64 m) ∧ w'.cell? ⟨w5.heap.size, 2, none⟩ = some (.int .i64 c) ∧ w'.cell? ⟨w5.heap.size, 3, none⟩ = some (.int .u64 d) ∧ w'.cell? ⟨w5.heap.size, 4, none⟩ = some (.bool y)) ∧ w.heap.size < w'.heap.size from fun w' h => by
        rw [← hXX] at h
        obtain ⟨c0, c1, c2, c3, c4, -⟩ := HS.out _ (tr hX2 h)
        obtain ⟨d0, d1, d2, d3, d4, -⟩ := (q5.below h).five
        exact ⟨⟨c0, c1, c2, c3, c4⟩, ⟨d0, d1, d2, d3, d4⟩, by have := HLV.out; have := (tr hX2 h).size; omega⟩)
      rw [hXX] at HWX
      clear q5 hX2 hXX
      replace hX := Below.refl X.heap.size X
      clear k0 k1 k2 k3 k4
      obtain ⟨k0, k1, k2, k3, k4, -⟩ := HS.out _ HX5.out
      go_wp2_with fail
      rw [HXX.out]
      obtain ⟨⟨k0, k1, k2, k3, k4⟩, ⟨j0, j1, j2, j3, j4⟩, hsz⟩ := HS2.out _ hX
      by_cases hbm : b ≤ m
      · have hmm : ¬ M < N := by have := hmn hbm; omega
        by_cases h1 : 1 ≤ c
        · go_wp2_with (first
            | (go_at_call 27; refine (HP2.out _).mono ?_; rintro e w6 ⟨rfl, o1⟩; replace hX := tr hX o1; clear o1 k0 k1 k2 k3 k4 j0 j1 j2 j3 j4 hsz; obtain ⟨⟨k0, k1, k2, k3, k4⟩, ⟨j0, j1, j2, j3, j4⟩, hsz⟩ := HS2.out _ hX)
            | (go_at_call 25; refine (HR2.out _).mono ?_; rintro e w6 ⟨rfl, o1⟩; replace hX := tr hX o1; clear o1 k0 k1 k2 k3 k4 j0 j1 j2 j3 j4 hsz; obtain ⟨⟨k0, k1, k2, k3, k4⟩, ⟨j0, j1, j2, j3, j4⟩, hsz⟩ := HS2.out _ hX)
            | (go_at_call 19; refine (HK.out _ (tr HWX.out (tr hX (by go_grown)))).mono ?_; rintro e w6 ⟨rfl, o1⟩; replace hX := tr (tr hX (by go_grown)) o1; clear o1)
            | fail)
          have hY := tr hX ((Below.refl w6.heap.size w6).alloc (Nat.le_refl _) (.cells (cells a b p d y) 32))
          have q6 := BoxA.new w6 32 (cells a b p d y)
          have HWY := Lib.hid (tr HWX.out hY)
          obtain ⟨Y, hYY⟩ : ∃ Y, w6.alloc (.cells (cells a b p d y) 32) = Y := ⟨_, rfl⟩
          have HYY := Lib.hid hYY
          have HS3 := Lib.hid (show ∀ w', Below Y.heap.size Y w' → (w'.cell? ⟨w.heap.size, 0, none⟩ = some (.int .i64 a) ∧ w'.cell? ⟨w.heap.size, 1, none⟩ = some (.int .i64 b) ∧ w'.cell? ⟨w.heap.size, 2, none⟩ = some (.int .i64 c) ∧ w'.cell? ⟨w.heap.size, 3, none⟩ = some (.int .u64 d) ∧ w'.cell? ⟨w.heap.size, 4, none⟩ = some (.bool y)) ∧ (w'.cell? ⟨w6.heap.size, 0, none⟩ = some (.int .i64 a) ∧ w'.cell? ⟨w6.heap.size, 1, none⟩ = some (.int .i64 b) ∧ w'.cell? ⟨w6.heap.size, 2, none⟩ = some (.int .i64 p) ∧ w'.cell? ⟨w6.heap.size, 3, none⟩ = some (.int .u64 d) ∧ w'.cell? ⟨w6.heap.size, 4, none⟩ = some (.bool y)) from fun w' h => by
            rw [← hYY] at h
            obtain ⟨⟨c0, c1, c2, c3, c4⟩, -, -⟩ := HS2.out _ (tr hY h)
            obtain ⟨d0, d1, d2, d3, d4, -⟩ := (q6.below h).five
            exact ⟨⟨c0, c1, c2, c3, c4⟩, ⟨d0, d1, d2, d3, d4⟩⟩)
          rw [hYY] at HWY
          clear q6 hY hYY k0 k1 k2 k3 k4 j0 j1 j2 j3 j4 hsz hX
          have hZ := Below.refl Y.heap.size Y
          rw [HYY.out]
          obtain ⟨⟨k0, k1, k2, k3, k4⟩, ⟨m0, m1, m2, m3, m4⟩⟩ := HS3.out _ hZ
          by_cases hpk : ck a b p = 0
          · have HPP := Lib.hid (fun w => part_ok a b p d y hpk w)
            have hpq := ck_ok hpk
            by_cases hcp : c ≤ p
            · have hmn2 : N ≤ part b p := HMO.out b p (Int.le_refl _) hcp (by omega)
              have hmm2 : ¬ part b p < N := by omega
              generalize part b p = M2 at *
              rw [hpk] at HRP
              clear hpk hpq hmn2
              go_wp2_with (first
                | (go_at_call 14; refine (HRP.out _).mono ?_; rintro e w8 ⟨rfl, o1⟩; replace hZ := tr hZ o1; clear o1 k0 k1 k2 k3 k4 m0 m1 m2 m3 m4; obtain ⟨⟨k0, k1, k2, k3, k4⟩, ⟨m0, m1, m2, m3, m4⟩⟩ := HS3.out _ hZ)
                | (go_at_call 27; refine (HPP.out _).mono ?_; rintro e w8 ⟨rfl, o1⟩; replace hZ := tr hZ o1; clear o1 k0 k1 k2 k3 k4 m0 m1 m2 m3 m4; obtain ⟨⟨k0, k1, k2, k3, k4⟩, ⟨m0, m1, m2, m3, m4⟩⟩ := HS3.out _ hZ)
                | (go_at_call 19; refine (HK.out _ (tr HWY.out hZ)).mono ?_; rintro e w8 ⟨rfl, o1⟩; replace hZ := tr hZ o1; clear o1)
                | fail)
              go_ret
              exact ⟨rfl, tr HWY.out hZ⟩
            · rw [hpk] at HRP
              clear hpk hpq HPP
              go_wp2_with (first
                | (go_at_call 14; refine (HRP.out _).mono ?_; rintro e w8 ⟨rfl, o1⟩; replace hZ := tr hZ o1; clear o1 k0 k1 k2 k3 k4 m0 m1 m2 m3 m4; obtain ⟨⟨k0, k1, k2, k3, k4⟩, ⟨m0, m1, m2, m3, m4⟩⟩ := HS3.out _ hZ)
                | (go_at_call 19; refine (HK.out _ (tr HWY.out hZ)).mono ?_; rintro e w8 ⟨rfl, o1⟩; replace hZ := tr hZ o1; clear o1)
                | fail)
              go_ret
              exact ⟨rfl, tr HWY.out hZ⟩
          · have hr3 : (ck a b p == 0) = false := by rw [beq_eq_false_iff_ne]; exact hpk
            have hr4 : (ck a b p != 0) = true := by rw [bne, hr3]; rfl
            generalize ck a b p = rp at *
            clear hpk
            go_wp2_with (first
              | (go_at_call 14; refine (HRP.out _).mono ?_; rintro e w8 ⟨rfl, o1⟩; replace hZ := tr hZ o1; clear o1 k0 k1 k2 k3 k4 m0 m1 m2 m3 m4; obtain ⟨⟨k0, k1, k2, k3, k4⟩, ⟨m0, m1, m2, m3, m4⟩⟩ := HS3.out _ hZ)
              | (go_at_call 19; refine (HK.out _ (tr HWY.out hZ)).mono ?_; rintro e w8 ⟨rfl, o1⟩; replace hZ := tr hZ o1; clear o1)
              | fail)
            go_ret
            exact ⟨rfl, tr HWY.out hZ⟩
        · have hc1 : c < 1 := by omega
          go_wp2_with (first
            | (go_at_call 27; refine (HP2.out _).mono ?_; rintro e w6 ⟨rfl, o1⟩; replace hX := tr hX o1; clear o1 k0 k1 k2 k3 k4 j0 j1 j2 j3 j4 hsz; obtain ⟨⟨k0, k1, k2, k3, k4⟩, ⟨j0, j1, j2, j3, j4⟩, hsz⟩ := HS2.out _ hX)
            | (go_at_call 25; refine (HR2.out _).mono ?_; rintro e w6 ⟨rfl, o1⟩; replace hX := tr hX o1; clear o1 k0 k1 k2 k3 k4 j0 j1 j2 j3 j4 hsz; obtain ⟨⟨k0, k1, k2, k3, k4⟩, ⟨j0, j1, j2, j3, j4⟩, hsz⟩ := HS2.out _ hX)
            | (go_at_call 19; refine (HK.out _ (tr HWX.out (tr hX (by go_grown)))).mono ?_; rintro e w6 ⟨rfl, o1⟩; replace hX := tr (tr hX (by go_grown)) o1; clear o1)
            | fail)
          go_ret
          exact ⟨rfl, tr HWX.out hX⟩
      · have hbm' : m < b := by omega
        by_cases h1 : 1 ≤ c
        · go_wp2_with (first
            | (go_at_call 27; refine (HP2.out _).mono ?_; rintro e w6 ⟨rfl, o1⟩; replace hX := tr hX o1; clear o1 k0 k1 k2 k3 k4 j0 j1 j2 j3 j4 hsz; obtain ⟨⟨k0, k1, k2, k3, k4⟩, ⟨j0, j1, j2, j3, j4⟩, hsz⟩ := HS2.out _ hX)
            | (go_at_call 25; refine (HR2.out _).mono ?_; rintro e w6 ⟨rfl, o1⟩; replace hX := tr hX o1; clear o1 k0 k1 k2 k3 k4 j0 j1 j2 j3 j4 hsz; obtain ⟨⟨k0, k1, k2, k3, k4⟩, ⟨j0, j1, j2, j3, j4⟩, hsz⟩ := HS2.out _ hX)
            | (go_at_call 19; refine (HK.out _ (tr HWX.out (tr hX (by go_grown)))).mono ?_; rintro e w6 ⟨rfl, o1⟩; replace hX := tr (tr hX (by go_grown)) o1; clear o1)
            | fail)
          have hY := tr hX ((Below.refl w6.heap.size w6).alloc (Nat.le_refl _) (.cells (cells a b p d y) 32))
          have q6 := BoxA.new w6 32 (cells a b p d y)
          have HWY := Lib.hid (tr HWX.out hY)
          obtain ⟨Y, hYY⟩ : ∃ Y, w6.alloc (.cells (cells a b p d y) 32) = Y := ⟨_, rfl⟩
          have HYY := Lib.hid hYY
          have HS3 := Lib.hid (show ∀ w', Below Y.heap.size Y w' → (w'.cell? ⟨w.heap.size, 0, none⟩ = some (.int .i64 a) ∧ w'.cell? ⟨w.heap.size, 1, none⟩ = some (.int .i64 b) ∧ w'.cell? ⟨w.heap.size, 2, none⟩ = some (.int .i64 c) ∧ w'.cell? ⟨w.heap.size, 3, none⟩ = some (.int .u64 d) ∧ w'.cell? ⟨w.heap.size, 4, none⟩ = some (.bool y)) ∧ (w'.cell? ⟨w6.heap.size, 0, none⟩ = some (.int .i64 a) ∧ w'.cell? ⟨w6.heap.size, 1, none⟩ = some (.int .i64 b) ∧ w'.cell? ⟨w6.heap.size, 2, none⟩ = some (.int .i64 p) ∧ w'.cell? ⟨w6.heap.size, 3, none⟩ = some (.int .u64 d) ∧ w'.cell? ⟨w6.heap.size, 4, none⟩ = some (.bool y)) from fun w' h => by
            rw [← hYY] at h
            obtain ⟨⟨c0, c1, c2, c3, c4⟩, -, -⟩ := HS2.out _ (tr hY h)
            obtain ⟨d0, d1, d2, d3, d4, -⟩ := (q6.below h).five
            exact ⟨⟨c0, c1, c2, c3, c4⟩, ⟨d0, d1, d2, d3, d4⟩⟩)
          rw [hYY] at HWY
          clear q6 hY hYY k0 k1 k2 k3 k4 j0 j1 j2 j3 j4 hsz hX
          have hZ := Below.refl Y.heap.size Y
          rw [HYY.out]
          obtain ⟨⟨k0, k1, k2, k3, k4⟩, ⟨m0, m1, m2, m3, m4⟩⟩ := HS3.out _ hZ
          by_cases hpk : ck a b p = 0
          · have HPP := Lib.hid (fun w => part_ok a b p d y hpk w)
            have hpq := ck_ok hpk
            by_cases hcp : c ≤ p
            · have hmn2 : N ≤ part b p := HMO.out b p (Int.le_refl _) hcp (by omega)
              have hmm2 : ¬ part b p < N := by omega
              generalize part b p = M2 at *
              rw [hpk] at HRP
              clear hpk hpq hmn2
              go_wp2_with (first
                | (go_at_call 14; refine (HRP.out _).mono ?_; rintro e w8 ⟨rfl, o1⟩; replace hZ := tr hZ o1; clear o1 k0 k1 k2 k3 k4 m0 m1 m2 m3 m4; obtain ⟨⟨k0, k1, k2, k3, k4⟩, ⟨m0, m1, m2, m3, m4⟩⟩ := HS3.out _ hZ)
                | (go_at_call 27; refine (HPP.out _).mono ?_; rintro e w8 ⟨rfl, o1⟩; replace hZ := tr hZ o1; clear o1 k0 k1 k2 k3 k4 m0 m1 m2 m3 m4; obtain ⟨⟨k0, k1, k2, k3, k4⟩, ⟨m0, m1, m2, m3, m4⟩⟩ := HS3.out _ hZ)
                | (go_at_call 19; refine (HK.out _ (tr HWY.out hZ)).mono ?_; rintro e w8 ⟨rfl, o1⟩; replace hZ := tr hZ o1; clear o1)
                | fail)
              go_ret
              exact ⟨rfl, tr HWY.out hZ⟩
            · rw [hpk] at HRP
              clear hpk hpq HPP
              go_wp2_with (first
                | (go_at_call 14; refine (HRP.out _).mono ?_; rintro e w8 ⟨rfl, o1⟩; replace hZ := tr hZ o1; clear o1 k0 k1 k2 k3 k4 m0 m1 m2 m3 m4; obtain ⟨⟨k0, k1, k2, k3, k4⟩, ⟨m0, m1, m2, m3, m4⟩⟩ := HS3.out _ hZ)
                | (go_at_call 19; refine (HK.out _ (tr HWY.out hZ)).mono ?_; rintro e w8 ⟨rfl, o1⟩; replace hZ := tr hZ o1; clear o1)
                | fail)
              go_ret
              exact ⟨rfl, tr HWY.out hZ⟩
          · have hr3 : (ck a b p == 0) = false := by rw [beq_eq_false_iff_ne]; exact hpk
            have hr4 : (ck a b p != 0) = true := by rw [bne, hr3]; rfl
            generalize ck a b p = rp at *
            clear hpk
            go_wp2_with (first
              | (go_at_call 14; refine (HRP.out _).mono ?_; rintro e w8 ⟨rfl, o1⟩; replace hZ := tr hZ o1; clear o1 k0 k1 k2 k3 k4 m0 m1 m2 m3 m4; obtain ⟨⟨k0, k1, k2, k3, k4⟩, ⟨m0, m1, m2, m3, m4⟩⟩ := HS3.out _ hZ)
              | (go_at_call 19; refine (HK.out _ (tr HWY.out hZ)).mono ?_; rintro e w8 ⟨rfl, o1⟩; replace hZ := tr hZ o1; clear o1)
              | fail)
            go_ret
            exact ⟨rfl, tr HWY.out hZ⟩
        · have hc1 : c < 1 := by omega
          go_wp2_with (first
            | (go_at_call 27; refine (HP2.out _).mono ?_; rintro e w6 ⟨rfl, o1⟩; replace hX := tr hX o1; clear o1 k0 k1 k2 k3 k4 j0 j1 j2 j3 j4 hsz; obtain ⟨⟨k0, k1, k2, k3, k4⟩, ⟨j0, j1, j2, j3, j4⟩, hsz⟩ := HS2.out _ hX)
            | (go_at_call 25; refine (HR2.out _).mono ?_; rintro e w6 ⟨rfl, o1⟩; replace hX := tr hX o1; clear o1 k0 k1 k2 k3 k4 j0 j1 j2 j3 j4 hsz; obtain ⟨⟨k0, k1, k2, k3, k4⟩, ⟨j0, j1, j2, j3, j4⟩, hsz⟩ := HS2.out _ hX)
            | (go_at_call 19; refine (HK.out _ (tr HWX.out (tr hX (by go_grown)))).mono ?_; rintro e w6 ⟨rfl, o1⟩; replace hX := tr (tr hX (by go_grown)) o1; clear o1)
            | fail)
          go_ret
          exact ⟨rfl, tr HWX.out hX⟩
    · have hr1 : (rzE a b c n m == 0) = false := by rw [beq_eq_false_iff_ne]; exact hrz
      have hr2 : (rzE a b c n m != 0) = true := by rw [bne, hr1]; rfl
      rw [if_neg hrz] at HRS
      generalize rzE a b c n m = r at *
      clear hrz
      refine (HRS.out _).mono ?_
      rintro e w5 ⟨rfl, o1⟩
      replace hX := tr hX o1
      clear o1 k0 k1 k2 k3 k4
      obtain ⟨k0, k1, k2, k3, k4, -⟩ := HS.out _ hX
      have HX5 := Lib.hid hX
      have hX2 := tr hX ((Below.refl w5.heap.size w5).alloc (Nat.le_refl _) (.cells (cells 0 0 0 0 false) 32))
      have q5 := BoxA.new w5 32 (cells 0 0 0 0 false)
      have HWX := Lib.hid (tr HWV.out hX2)
      obtain ⟨X, hXX⟩ : ∃ X, w5.alloc (.cells (cells 0 0 0 0 false) 32) = X := ⟨_, rfl⟩
      have HXX := Lib.hid hXX
      have HS2 := Lib.hid (show ∀ w', Below X.heap.size X w' → (w'.cell? ⟨w.heap.size, 0, none⟩ = some (.int .i64 a) ∧ w'.cell? ⟨w.heap.size, 1, none⟩ = some (.int .i64 b) ∧ w'.cell? ⟨w.heap.size, 2, none⟩ = some (.int .i64 c) ∧ w'.cell? ⟨w.heap.size, 3, none⟩ = some (.int .u64 d) ∧ w'.cell? ⟨w.heap.size, 4, none⟩ = some (.bool y)) ∧ (w'.cell? ⟨w5.heap.size, 0, none⟩ = some (.int .i64 0) ∧ w'.cell? ⟨w5.heap.size, 1, none⟩ = some (.int .i64 0) ∧ w'.cell? ⟨w5.heap.size, 2, none⟩ = some (.int .i64 0) ∧ w'.cell? ⟨w5.heap.size, 3, none⟩ = some (.int .u64 0) ∧ w'.cell? ⟨w5.heap.size, 4, none⟩ = some (.bool false)) ∧ w.heap.size < w'.heap.size from fun w' h => by
        rw [← hXX] at h
        obtain ⟨c0, c1, c2, c3, c4, -⟩ := HS.out _ (tr hX2 h)
        obtain ⟨d0, d1, d2, d3, d4, -⟩ := (q5.below h).five
        exact ⟨⟨c0, c1, c2, c3, c4⟩, ⟨d0, d1, d2, d3, d4⟩, by have := HLV.out; have := (tr hX2 h).size; omega⟩)
      rw [hXX] at HWX
      clear q5 hX2 hXX
      replace hX := Below.refl X.heap.size X
      have hXs : X.heap.size = w5.heap.size + 1 := by rw [← HXX.out]; simp
      have hsz : w.heap.size < w5.heap.size := by have := HLV.out; have := HX5.out.size; omega
      clear k0 k1 k2 k3 k4
      obtain ⟨k0, k1, k2, k3, k4, -⟩ := HS.out _ HX5.out
      by_cases h1 : 1 ≤ c
      · have HXs := Lib.hid hXs
        clear hXs
        go_wp2_with fail
        rw [HXX.out]
        have hXs := HXs.out
        have hY := tr hX ((Below.refl X.heap.size X).alloc (Nat.le_refl _) (.cells (cells a b p d y) 32))
        have q6 := BoxA.new X 32 (cells a b p d y)
        have HWY := Lib.hid (tr HWX.out hY)
        obtain ⟨Y, hYY⟩ : ∃ Y, X.alloc (.cells (cells a b p d y) 32) = Y := ⟨_, rfl⟩
        have HYY := Lib.hid hYY
        have HS3 := Lib.hid (show ∀ w', Below Y.heap.size Y w' → (w'.cell? ⟨w.heap.size, 0, none⟩ = some (.int .i64 a) ∧ w'.cell? ⟨w.heap.size, 1, none⟩ = some (.int .i64 b) ∧ w'.cell? ⟨w.heap.size, 2, none⟩ = some (.int .i64 c) ∧ w'.cell? ⟨w.heap.size, 3, none⟩ = some (.int .u64 d) ∧ w'.cell? ⟨w.heap.size, 4, none⟩ = some (.bool y)) ∧ (w'.cell? ⟨w5.heap.size + 1, 0, none⟩ = some (.int .i64 a) ∧ w'.cell? ⟨w5.heap.size + 1, 1, none⟩ = some (.int .i64 b) ∧ w'.cell? ⟨w5.heap.size + 1, 2, none⟩ = some (.int .i64 p) ∧ w'.cell? ⟨w5.heap.size + 1, 3, none⟩ = some (.int .u64 d) ∧ w'.cell? ⟨w5.heap.size + 1, 4, none⟩ = some (.bool y)) from fun w' h => by
          rw [← hYY] at h
          obtain ⟨⟨c0, c1, c2, c3, c4⟩, -, -⟩ := HS2.out _ (tr hY h)
          have hq := q6.below h
          rw [hXs] at hq
          obtain ⟨d0, d1, d2, d3, d4, -⟩ := hq.five
          exact ⟨⟨c0, c1, c2, c3, c4⟩, ⟨d0, d1, d2, d3, d4⟩⟩)
        rw [hYY] at HWY
        clear q6 hY hYY k0 k1 k2 k3 k4 hX hsz
        have hZ := Below.refl Y.heap.size Y
        rw [HYY.out]
        obtain ⟨⟨k0, k1, k2, k3, k4⟩, ⟨m0, m1, m2, m3, m4⟩⟩ := HS3.out _ hZ
        by_cases hpk : ck a b p = 0
        · have HPP := Lib.hid (fun w => part_ok a b p d y hpk w)
          have hpq := ck_ok hpk
          by_cases hcp : c ≤ p
          · have hmn2 : N ≤ part b p := HMO.out b p (Int.le_refl _) hcp (by omega)
            have hmm2 : ¬ part b p < N := by omega
            generalize part b p = M2 at *
            rw [hpk] at HRP
            clear hpk hpq hmn2
            go_wp2_with (first
              | (go_at_call 14; refine (HRP.out _).mono ?_; rintro e w8 ⟨rfl, o1⟩; replace hZ := tr hZ o1; clear o1 k0 k1 k2 k3 k4 m0 m1 m2 m3 m4; obtain ⟨⟨k0, k1, k2, k3, k4⟩, ⟨m0, m1, m2, m3, m4⟩⟩ := HS3.out _ hZ)
              | (go_at_call 27; refine (HPP.out _).mono ?_; rintro e w8 ⟨rfl, o1⟩; replace hZ := tr hZ o1; clear o1 k0 k1 k2 k3 k4 m0 m1 m2 m3 m4; obtain ⟨⟨k0, k1, k2, k3, k4⟩, ⟨m0, m1, m2, m3, m4⟩⟩ := HS3.out _ hZ)
              | (go_at_call 19; refine (HK.out _ (tr HWY.out hZ)).mono ?_; rintro e w8 ⟨rfl, o1⟩; replace hZ := tr hZ o1; clear o1)
              | fail)
            go_ret
            exact ⟨rfl, tr HWY.out hZ⟩
          · rw [hpk] at HRP
            clear hpk hpq HPP
            go_wp2_with (first
              | (go_at_call 14; refine (HRP.out _).mono ?_; rintro e w8 ⟨rfl, o1⟩; replace hZ := tr hZ o1; clear o1 k0 k1 k2 k3 k4 m0 m1 m2 m3 m4; obtain ⟨⟨k0, k1, k2, k3, k4⟩, ⟨m0, m1, m2, m3, m4⟩⟩ := HS3.out _ hZ)
              | (go_at_call 19; refine (HK.out _ (tr HWY.out hZ)).mono ?_; rintro e w8 ⟨rfl, o1⟩; replace hZ := tr hZ o1; clear o1)
              | fail)
            go_ret
            exact ⟨rfl, tr HWY.out hZ⟩
        · have hr3 : (ck a b p == 0) = false := by rw [beq_eq_false_iff_ne]; exact hpk
          have hr4 : (ck a b p != 0) = true := by rw [bne, hr3]; rfl
          generalize ck a b p = rp at *
          clear hpk
          go_wp2_with (first
            | (go_at_call 14; refine (HRP.out _).mono ?_; rintro e w8 ⟨rfl, o1⟩; replace hZ := tr hZ o1; clear o1 k0 k1 k2 k3 k4 m0 m1 m2 m3 m4; obtain ⟨⟨k0, k1, k2, k3, k4⟩, ⟨m0, m1, m2, m3, m4⟩⟩ := HS3.out _ hZ)
            | (go_at_call 19; refine (HK.out _ (tr HWY.out hZ)).mono ?_; rintro e w8 ⟨rfl, o1⟩; replace hZ := tr hZ o1; clear o1)
            | fail)
          go_ret
          exact ⟨rfl, tr HWY.out hZ⟩
      · have hc1 : c < 1 := by omega
        clear hXs
        go_wp2_with fail
        refine (HK.out _ (tr HWV.out (tr HX5.out (by go_grown)))).mono ?_
        rintro e w8 ⟨rfl, o1⟩
        have hW8 := tr (tr HWV.out (tr HX5.out (by go_grown))) o1
        go_wp2_with fail
        go_ret
        exact ⟨rfl, hW8⟩
  · have hr : (ck a b c == 0) = false := by rw [beq_eq_false_iff_ne]; exact hc
    have hr2 : (ck a b c != 0) = true := by rw [bne, hr]; rfl
    generalize ck a b c = r at *
    clear hc hv hV hwV
    go_enter Tryd.func8, Tryd.ntmps8
    go_wp2_with fail
    rw [HV1.out]
    obtain ⟨k0, k1, k2, k3, k4, -⟩ := HS.out _ hX
    go_wp2_with fail
    refine (HRC.out _).mono ?_
    rintro e w4 ⟨rfl, o1⟩
    replace hX := tr hX o1
    go_wp2_with fail
    refine (HK.out _ (tr HWV.out hX)).mono ?_
    rintro e w5 ⟨rfl, o2⟩
    go_wp2_with fail
    go_ret
    exact ⟨rfl, tr HWV.out (tr hX o2)⟩
end Go.Proofs.YtckibgpmncggaaaDoor.Cfg
