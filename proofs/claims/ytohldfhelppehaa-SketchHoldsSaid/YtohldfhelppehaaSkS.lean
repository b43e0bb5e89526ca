/-
  The law of layer 33 on places, for all arguments.
-/
import Derived.Test.YtohldfhelppehaaSkT
set_option linter.unusedVariables false
set_option linter.unusedSimpArgs false
namespace Go.Proofs.Ytohldfhelppehaa.Skt
open Go.RowKit Kit Hash Blo
/-- known() at every later world -/
def Kns (W : World) : Prop := ∀ w1, Below W.heap.size W w1 → Calls Try.prog 31 #[] w1 fun e w' => e = .returned (.bool true) ∧ Below w1.heap.size w1 w'
theorem snew_ok {W : World} {m sd b : Int} {n : Nat} (hin : In b m) (ha : als b m = true) (hb : b = n) :
    Calls Try.prog 30 #[.int .i64 b, .int .u64 sd, .int .i64 m] W fun e w' => ∃ r1 r2 r3 r4, e = .returned (.tuple #[sk n m 0 sd n r1 n r2 n r3 n r4 n, .int .i64 0]) ∧ Below W.heap.size W w' := by
  refine (snew_any hin.b0 hin.b1 hin.h0 hin.h1).mono ?_
  rintro e w1 ⟨b1, ⟨-, r1, r2, r3, r4, rfl, -⟩ | ⟨h, rfl⟩⟩
  · subst hb; exact ⟨r1, r2, r3, r4, rfl, b1⟩
  · rw [ha] at h; cases h
theorem snew_bad {W : World} {m sd b : Int} (hin : In b m) (ha : als b m = false) :
    Calls Try.prog 30 #[.int .i64 b, .int .u64 sd, .int .i64 m] W fun e w' => e = .returned (.tuple #[sk0, .int .i64 2]) ∧ Below W.heap.size W w' := by
  refine (snew_any hin.b0 hin.b1 hin.h0 hin.h1).mono ?_
  rintro e w1 ⟨b1, ⟨h, r1, r2, r3, r4, rfl, -⟩ | ⟨-, rfl⟩⟩
  · rw [ha] at h; cases h
  · exact ⟨rfl, b1⟩
theorem als_n {b m : Int} (h : als b m = true) : ∃ n : Nat, b = n ∧ 16 ≤ n ∧ n ≤ 65536 := by
  unfold als at h
  simp only [Bool.and_eq_true, decide_eq_true_eq] at h
  obtain ⟨⟨hp, h0⟩, h1⟩ := h
  obtain ⟨i, hi, hbi⟩ := pwS_ok hp
  have hpi : 2 ^ i ≤ 2 ^ 12 := Nat.pow_le_pow_right (by decide) (by omega)
  have hp1 : 1 ≤ 2 ^ i := Nat.one_le_two_pow
  exact ⟨16 * 2 ^ i, hbi, by omega, by omega⟩
set_option maxRecDepth 100000 in
set_option maxHeartbeats 2000000 in
theorem lsp_any {W : World} {b sd : Int} (hin : In b 0) (hsd : Word sd) (k : ByteArray) (hkm : k.size ≤ maxLen) (hk : Kns W) :
    Calls Try.prog 9 #[.int .i64 b, .int .u64 sd, .string k] W fun e w' => e = .returned (.bool true) ∧ Below W.heap.size W w' := by
  have HK := Lib.hid hk
  clear hk
  cases ha : als b 0
  · have HR := Lib.hid (fun w => snew_bad (W := w) (sd := sd) hin ha)
    clear ha hin
    go_enter Try.func9, Try.ntmps9
    go_wp2_with fail
    refine (HR.out _).mono ?_
    rintro e w1 ⟨rfl, b1⟩
    have B1 := Lib.hid b1
    unfold sk0
    go_wp2_with fail
    refine (HK.out _ (by first | exact B1.out | exact tr B1.out (by go_grown))).mono ?_
    rintro e w3 ⟨rfl, b3⟩
    go_wp2_with fail
    go_ret
    exact ⟨rfl, by first | exact tr B1.out b3 | exact tr (tr B1.out (by go_grown)) b3⟩
  · obtain ⟨n, rfl, n1, n2⟩ := als_n ha
    have HR := Lib.hid (fun w => snew_ok (W := w) (sd := sd) (n := n) hin ha rfl)
    have HN := Lib.hid (fun w => pnew_ok (sd := sd) ha w)
    clear ha hin
    go_enter Try.func9, Try.ntmps9
    go_wp2_with fail
    refine (HR.out _).mono ?_
    rintro e w1 ⟨r1, r2, r3, r4, rfl, b1⟩
    have B1 := Lib.hid b1
    by_cases h3 : 300 < k.size
    · unfold sk
      go_wp2_with fail
      refine (HK.out _ (by first | exact B1.out | exact tr B1.out (by go_grown))).mono ?_
      rintro e w3 ⟨rfl, b3⟩
      go_wp2_with fail
      go_ret
      exact ⟨rfl, by first | exact tr B1.out b3 | exact tr (tr B1.out (by go_grown)) b3⟩
    · have HP := Lib.hid (fun w => rplc (W := w) (m := 0) (t := 0) (sd := sd) hsd (r1 := r1) (c1 := n) (r2 := r2) (c2 := n) (r3 := r3) (c3 := n) (r4 := r4) (c4 := n) n1 n2 k hkm)
      unfold sk at *
      go_wp2_with fail
      refine (HN.out _).mono ?_
      rintro e w2 ⟨p, q1, q2, q3, q4, rfl, ho, -, -, -, -, -, -, -, -, -, b2⟩
      have HS := Lib.hid (show Sk w2 p 0 0 sd n q1 n q2 n q3 n q4 n from ho)
      have B2 := Lib.hid (show Below W.heap.size W w2 from by first | exact tr B1.out b2 | exact tr (tr B1.out (by go_grown)) b2)
      have hbx : w2.heap[w1.heap.size]? = some (.cells #[.int .i64 n, .int .i64 0, .int .i64 0, .int .u64 sd, .slice (some ⟨r1, 0, none⟩) n n, .slice (some ⟨r2, 0, none⟩) n n, .slice (some ⟨r3, 0, none⟩) n n, .slice (some ⟨r4, 0, none⟩) n n] 62) := by
        rw [b2.block w1.heap.size (by simp)]; exact (MapKept.heap_alloc _ _).1
      have e0 : w2.cell? ⟨w1.heap.size, 0, none⟩ = some (.int .i64 n) := by unfold World.cell?; rw [hbx]; rfl
      have e1 : w2.cell? ⟨w1.heap.size, 1, none⟩ = some (.int .i64 0) := by unfold World.cell?; rw [hbx]; rfl
      have e2 : w2.cell? ⟨w1.heap.size, 2, none⟩ = some (.int .i64 0) := by unfold World.cell?; rw [hbx]; rfl
      have e3 : w2.cell? ⟨w1.heap.size, 3, none⟩ = some (.int .u64 sd) := by unfold World.cell?; rw [hbx]; rfl
      have e4 : w2.cell? ⟨w1.heap.size, 4, none⟩ = some (.slice (some ⟨r1, 0, none⟩) n n) := by unfold World.cell?; rw [hbx]; rfl
      have e5 : w2.cell? ⟨w1.heap.size, 5, none⟩ = some (.slice (some ⟨r2, 0, none⟩) n n) := by unfold World.cell?; rw [hbx]; rfl
      have e6 : w2.cell? ⟨w1.heap.size, 6, none⟩ = some (.slice (some ⟨r3, 0, none⟩) n n) := by unfold World.cell?; rw [hbx]; rfl
      have e7 : w2.cell? ⟨w1.heap.size, 7, none⟩ = some (.slice (some ⟨r4, 0, none⟩) n n) := by unfold World.cell?; rw [hbx]; rfl
      clear ho b2 hbx
      go_wp2_with fail
      refine (HP.out _).mono ?_
      rintro e w4 ⟨rfl, b4⟩
      go_wp2_with fail
      refine (lplc hsd (HS.out.below b4) n1 n2 k hkm).mono ?_
      rintro e w5 ⟨rfl, b5⟩
      have B5 := Lib.hid (tr (tr B2.out b4) b5)
      clear b4 b5
      go_wp2_with fail
      refine (HK.out _ B5.out).mono ?_
      rintro e w3 ⟨rfl, b3⟩
      go_wp2_with fail
      go_ret
      exact ⟨rfl, tr B5.out b3⟩
end Go.Proofs.Ytohldfhelppehaa.Skt
