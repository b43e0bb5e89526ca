/-
  Configurations (layer 23): the reference's text.
-/
import Derived.Test.YtckibgpmncggaaaDoorCfgF
set_option linter.unusedVariables false
set_option linter.unusedSimpArgs false
namespace Go.Proofs.YtckibgpmncggaaaDoor.Cfg
open Go Go.RowKit Kit
theorem text_bad (a b c d : Int) (y : Bool) (hc : ¬ ck a b c = 0) (w : World) :
    Calls Tryd.prog 26 #[conf a b c d y] w fun e w' => e = .returned (.tuple #[.string ⟨#[]⟩, .int .i64 (ck a b c)]) ∧ Below w.heap.size w w' := by
  have HC := Lib.hid (fun w => check_any a b c d y w)
  generalize ck a b c = r at *
  have hr : (r == 0) = false := by rw [beq_eq_false_iff_ne]; exact hc
  go_enter Tryd.func26, Tryd.ntmps26
  go_wp2_with fail
  refine (HC.out _).mono ?_
  rintro e w1 ⟨rfl, b1⟩
  go_wp2_with fail
  go_ret2
  exact ⟨rfl, tr (by go_grown) b1⟩
theorem decA (z : Int) (A : ByteArray) (w : World) (h : 0 ≤ z ∧ z < 18446744073709551616 ∧ dec z.toNat = A) :
    Calls Tryd.prog 40 #[.int .u64 z] w fun e w' => e = .returned (.string A) ∧ Below w.heap.size w w' := by
  obtain ⟨h0, h1, rfl⟩ := h
  obtain ⟨n, rfl⟩ : ∃ n : Nat, z = n := ⟨z.toNat, by omega⟩
  rw [Int.toNat_natCast]
  exact decimal_any n (by omega) w
set_option maxRecDepth 100000 in
set_option maxHeartbeats 1000000 in
theorem rtext_any (a b c d : Nat) (y : Bool) (ha : a < 18446744073709551616) (hb : b < 18446744073709551616) (hc : c < 18446744073709551616) (hd : d < 18446744073709551616) (w : World) :
    Calls Tryd.prog 21 #[conf a b c d y] w fun e w' => e = .returned (.string (str (T a b c d y))) ∧ Below w.heap.size w w' := by
  have HA := Lib.hid (show (0 : Int) ≤ (a : Int) ∧ (a : Int) < 18446744073709551616 ∧ dec (a : Int).toNat = dec a from ⟨by omega, by omega, rfl⟩)
  have HB := Lib.hid (show (0 : Int) ≤ (b : Int) ∧ (b : Int) < 18446744073709551616 ∧ dec (b : Int).toNat = dec b from ⟨by omega, by omega, rfl⟩)
  have HC := Lib.hid (show (0 : Int) ≤ (c : Int) ∧ (c : Int) < 18446744073709551616 ∧ dec (c : Int).toNat = dec c from ⟨by omega, by omega, rfl⟩)
  have HD := Lib.hid (show (0 : Int) ≤ (d : Int) ∧ (d : Int) < 18446744073709551616 ∧ dec (d : Int).toNat = dec d from ⟨by omega, by omega, rfl⟩)
  have v1 : IntKind.u64.wrap (a : Int) = a := wrap64u _ (by omega) (by omega)
  have v2 : IntKind.u64.wrap (b : Int) = b := wrap64u _ (by omega) (by omega)
  have v3 : IntKind.u64.wrap (c : Int) = c := wrap64u _ (by omega) (by omega)
  have s1 := dec_size a ha
  have s2 := dec_size b hb
  have s3 := dec_size c hc
  have s4 := dec_size d hd
  have hT := show ∀ z, str (T a b c d z) = str w0 ++ dec a ++ str w1 ++ dec b ++ str w2 ++ dec c ++ str w3 ++ dec d ++ (str w4 ++ str (if z then yes else no)) from fun z => by
    unfold T dec
    simp only [str_append]
    simp only [← ByteArray.append_assoc]
  have HT := Lib.hid hT
  clear hT
  generalize hq1 : dec a = A1 at *
  generalize hq2 : dec b = A2 at *
  generalize hq3 : dec c = A3 at *
  generalize hq4 : dec d = A4 at *
  clear hq1 hq2 hq3 hq4
  obtain ⟨V, hV⟩ : ∃ V, w.alloc (.cells (cells a b c d y) 32) = V := ⟨_, rfl⟩
  have hwV : Below w.heap.size w V := by rw [← hV]; go_grown
  have HS := Lib.hid (show ∀ w1, Below V.heap.size V w1 → (w1.cell? ⟨w.heap.size, 0, none⟩ = some (.int .i64 a) ∧ w1.cell? ⟨w.heap.size, 1, none⟩ = some (.int .i64 b) ∧ w1.cell? ⟨w.heap.size, 2, none⟩ = some (.int .i64 c) ∧ w1.cell? ⟨w.heap.size, 3, none⟩ = some (.int .u64 d) ∧ w1.cell? ⟨w.heap.size, 4, none⟩ = some (.bool y) ∧ Below V.heap.size V w1) from by
    intro w1 h
    have hq : BoxA V w.heap.size 32 (cells a b c d y) := by rw [← hV]; exact BoxA.new _ _ _
    obtain ⟨c0, c1, c2, c3, c4, -⟩ := (hq.below h).five
    exact ⟨c0, c1, c2, c3, c4, h⟩)
  have g1 : ¬ 9223372036854775807 < 6 + A1.size := by omega
  have g2 : ¬ 9223372036854775807 < 6 + A1.size + 7 := by omega
  have g3 : ¬ 9223372036854775807 < 6 + A1.size + 7 + A2.size := by omega
  have g4 : ¬ 9223372036854775807 < 6 + A1.size + 7 + A2.size + 11 := by omega
  have g5 : ¬ 9223372036854775807 < 6 + A1.size + 7 + A2.size + 11 + A3.size := by omega
  have g6 : ¬ 9223372036854775807 < 6 + A1.size + 7 + A2.size + 11 + A3.size + 6 := by omega
  have g7 : ¬ 9223372036854775807 < 6 + A1.size + 7 + A2.size + 11 + A3.size + 6 + A4.size := by omega
  have g8 : ¬ 9223372036854775807 < 6 + A1.size + 7 + A2.size + 11 + A3.size + 6 + A4.size + 9 := by omega
  have g9 : ¬ 9223372036854775807 < 6 + A1.size + 7 + A2.size + 11 + A3.size + 6 + A4.size + 8 := by omega
  have HV := Lib.hid hV
  have HWV := Lib.hid hwV
  clear hV hwV
  go_enter Tryd.func21, Tryd.ntmps21
  go_wp2_with fail
  rw [HV.out]
  go_region_held3 (fun w' => w'.cell? ⟨w.heap.size, 0, none⟩ = some (.int .i64 a) ∧ w'.cell? ⟨w.heap.size, 1, none⟩ = some (.int .i64 b) ∧ w'.cell? ⟨w.heap.size, 2, none⟩ = some (.int .i64 c) ∧ w'.cell? ⟨w.heap.size, 3, none⟩ = some (.int .u64 d) ∧ w'.cell? ⟨w.heap.size, 4, none⟩ = some (.bool y) ∧ Below V.heap.size V w')
    (first
      | (exact HS.out _ (Below.drew (Below.refl _ _)))
      | assumption
      | (exact HS.out _ (tr (by assumption : _ ∧ _ ∧ _ ∧ _ ∧ _ ∧ Below V.heap.size V _).2.2.2.2.2 o1))
      | fail)
    (first
      | (go_at_call 40; refine (decA _ _ _ (by first | exact HA.out | exact HB.out | exact HC.out | exact HD.out)).mono ?_
         rintro e w' ⟨rfl, o1⟩)
      | fail)
  all_goals
    obtain ⟨-, -, -, -, k4, bV⟩ := (by assumption : _ ∧ _ ∧ _ ∧ _ ∧ _ ∧ Below V.heap.size V _)
    have BV := Lib.hid bV
    clear bV
    cases y
    · go_wp2_with fail
      go_ret
      exact ⟨by rw [HT.out]; rfl, HWV.out.trans (BV.out.mono HWV.out.size)⟩
    · go_wp2_with fail
      go_ret
      exact ⟨by rw [HT.out]; rfl, HWV.out.trans (BV.out.mono HWV.out.size)⟩
end Go.Proofs.YtckibgpmncggaaaDoor.Cfg
