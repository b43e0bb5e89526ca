/-
  The laws of layer 34 on new filters and places.
-/
import Derived.Test.YtohldfhelppehaaBloH
set_option linter.unusedVariables false
set_option linter.unusedSimpArgs false
namespace Go.Proofs.Ytohldfhelppehaa.Blo
open Go.RowKit Kit Hash
/-- known() at every later world -/
def Kn (W : World) : Prop := ∀ w1, Below W.heap.size W w1 → Calls Try.prog 13 #[] w1 fun e w' => e = .returned (.bool true) ∧ Below w1.heap.size w1 w'
theorem toNat_64 {b : Int} {n : Nat} (hb : b = 64 * n) : b.toNat = 64 * n := by omega
/-- numbers that are allowed, as Go has them -/
structure In (b hs : Int) : Prop where
  b0 : -9223372036854775808 ≤ b
  b1 : b < 9223372036854775808
  h0 : -9223372036854775808 ≤ hs
  h1 : hs < 9223372036854775808
theorem rnew_ok {W : World} {b hs sd : Int} {n : Nat} (hin : In b hs) (ha : alw b hs = true) (hb : b = 64 * n) :
    Calls Try.prog 12 #[.int .i64 b, .int .i64 hs, .int .u64 sd] W fun e w' => ∃ r, e = .returned (.tuple #[rf hs sd r (64 * n) (64 * n), .int .i64 0]) ∧ Rr w' r (64 * n) (fun _ => false) ∧ W.heap.size ≤ r ∧ Below W.heap.size W w' := by
  refine (rnew_any hin.b0 hin.b1 hin.h0 hin.h1).mono ?_
  rintro e w1 ⟨b1, ⟨-, r, rfl, hr, hg⟩ | ⟨h, rfl⟩⟩
  · rw [toNat_64 hb] at *; exact ⟨r, rfl, hr, hg, b1⟩
  · rw [ha] at h; cases h
theorem rnew_bad {W : World} {b hs sd : Int} (hin : In b hs) (ha : alw b hs = false) :
    Calls Try.prog 12 #[.int .i64 b, .int .i64 hs, .int .u64 sd] W fun e w' => e = .returned (.tuple #[.agg #[.int .i64 0, .int .u64 0, .slice none 0 0], .int .i64 2]) ∧ Below W.heap.size W w' := by
  refine (rnew_any hin.b0 hin.b1 hin.h0 hin.h1).mono ?_
  rintro e w1 ⟨b1, ⟨h, r, rfl, hr, hg⟩ | ⟨-, rfl⟩⟩
  · rw [ha] at h; cases h
  · exact ⟨rfl, b1⟩
theorem box3 {w1 w2 : World} {hs sd : Int} {r m c : Nat} (h : Below (w1.alloc (rfO hs sd r m c)).heap.size (w1.alloc (rfO hs sd r m c)) w2) :
    w2.cell? ⟨w1.heap.size, 0, none⟩ = some (.int .i64 hs) ∧ w2.cell? ⟨w1.heap.size, 1, none⟩ = some (.int .u64 sd) ∧ w2.cell? ⟨w1.heap.size, 2, none⟩ = some (.slice (some ⟨r, 0, none⟩) m c) ∧ w1.heap.size < w2.heap.size ∧ Below w1.heap.size w1 w2 := by
  have h1 : Below (w1.heap.size + 1) (w1.alloc (rfO hs sd r m c)) w2 := by simpa [World.size_alloc] using h
  obtain ⟨a, b, d⟩ := rf_cells h1
  have hs := h.size
  simp only [World.size_alloc] at hs
  exact ⟨a, b, d, by omega, rf_below h1⟩
set_option maxRecDepth 100000 in
set_option maxHeartbeats 2000000 in
theorem lnew_any {W : World} {b hs sd : Int} (hin : In b hs) (hsd : Word sd) (hk : Kn W) :
    Calls Try.prog 3 #[.int .i64 b, .int .i64 hs, .int .u64 sd] W fun e w' => e = .returned (.bool true) ∧ Below W.heap.size W w' := by
  have HK := Lib.hid hk
  clear hk
  cases ha : alw b hs
  · have HR := Lib.hid (fun w => rnew_bad (W := w) (sd := sd) hin ha)
    have HA := Lib.hid ha
    clear ha
    go_enter Try.func3, Try.ntmps3
    go_wp2_with fail
    refine (HR.out _).mono ?_
    rintro e w1 ⟨rfl, b1⟩
    have B1 := Lib.hid b1
    clear b1
    go_wp2_with fail
    refine (new_bad HA.out _).mono ?_
    rintro e w2 ⟨rfl, b2⟩
    have B2 := Lib.hid (tr (tr B1.out (by go_grown)) b2)
    clear b2
    go_wp2_with fail
    refine (HK.out _ B2.out).mono ?_
    rintro e w3 ⟨rfl, b3⟩
    go_wp2_with fail
    go_ret
    exact ⟨rfl, tr B2.out b3⟩
  · obtain ⟨n, hbn, ok⟩ := Ok.of ha hsd
    have HR := Lib.hid (fun w => rnew_ok (W := w) (sd := sd) hin ha hbn)
    have HOK := Lib.hid ok
    have HBN := Lib.hid hbn
    clear ok hbn ha
    go_enter Try.func3, Try.ntmps3
    go_wp2_with fail
    refine (HR.out _).mono ?_
    rintro e w1 ⟨r, rfl, hr, hg, b1⟩
    have HR1 := Lib.hid hr
    have B1 := Lib.hid b1
    clear hr b1
    by_cases hbig : 8192 < b
    · go_wp2_with fail
      have B2 := Lib.hid (tr B1.out (by go_grown : Below w1.heap.size w1 (w1.alloc (rfO hs sd r (64 * n) (64 * n)))))
      refine (HK.out _ B2.out).mono ?_
      rintro e w2 ⟨rfl, b2⟩
      go_wp2_with fail
      go_ret
      exact ⟨rfl, tr B2.out b2⟩
    · go_wp2_with fail
      refine (new_ok HOK.out HBN.out _).mono ?_
      rintro e w2 ⟨p, q, rfl, hf, hp, hq, b2⟩
      obtain ⟨x0, x1, x2, x3, x4⟩ := box3 b2
      have B2 := Lib.hid x4
      have HF := Lib.hid hf
      clear hf b2 x4
      go_wp2_with fail
      refine (equal_any HF.out (HR1.out.below B2.out) HOK.out _ (by decide)).mono ?_
      rintro e w3 ⟨rfl, b3⟩
      have B3 := Lib.hid (tr (tr B1.out B2.out) b3)
      clear b3
      go_wp2_with fail
      refine (HK.out _ B3.out).mono ?_
      rintro e w4 ⟨rfl, b4⟩
      go_wp2_with fail
      go_ret
      exact ⟨rfl, tr B3.out b4⟩
end Go.Proofs.Ytohldfhelppehaa.Blo
