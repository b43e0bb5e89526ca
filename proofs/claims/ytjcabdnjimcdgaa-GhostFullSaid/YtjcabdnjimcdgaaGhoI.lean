/-
  Ghost lists (layer 28): the law GhostFull.
-/
import Derived.Test.YtjcabdnjimcdgaaGhoH
set_option linter.unusedVariables false
set_option linter.unusedSimpArgs false
namespace Go.Proofs.Ytjcabdnjimcdgaa.Gho
open Go Go.RowKit Kit Go.Maps Lnk
set_option maxRecDepth 100000 in
theorem b2i_any (w : World) (is : Bool) :
    Calls Try.prog 70 #[.bool is] w fun e w' => e = .returned (.int .i64 (if is then 1 else 0)) ∧ w = w' := by
  cases is
  all_goals (
    go_enter Try.func70, Try.ntmps70
    go_wp2_with fail
    go_ret
    exact ⟨rfl, rfl⟩)
set_option maxRecDepth 100000 in
theorem adds_ok {v : World} {b : Nat} {z x : Int} {left : Bool} {R : World → Prop} (h : Calls Try.prog 60 #[.pointer (some ⟨b, 0, none⟩), .int .u32 z] v fun e w' => e = .returned (.tuple #[.int .u32 x, .bool left, .int .i64 0]) ∧ R w') :
    Calls Try.prog 69 #[.pointer (some ⟨b, 0, none⟩), .int .u32 z, .int .u32 x, .bool left] v fun e w' => e = .returned (.bool true) ∧ R w' := by
  have H := Lib.hid h
  clear h
  go_enter Try.func69, Try.ntmps69
  go_wp2_with fail
  refine H.out.mono ?_
  rintro e w1 ⟨rfl, r1⟩
  have R1 := Lib.hid r1
  clear r1
  go_wp2_with fail
  go_ret
  exact ⟨by simp, R1.out⟩
/-- the keys of the law behind j calls -/
def kl (M j : Nat) : List Nat := (List.range' (j - M + 5) (min j M)).reverse
theorem kl_len (M j : Nat) : (kl M j).length = min j M := by unfold kl; simp
theorem kl_mem {M j k : Nat} : k ∈ kl M j ↔ j - M + 5 ≤ k ∧ k < j + 5 := by
  unfold kl
  rw [List.mem_reverse, List.mem_range'_1]
  omega
theorem kl_cons (M j : Nat) : (j + 5) :: kl M j = (List.range' (j - M + 5) (min j M + 1)).reverse := by
  unfold kl
  rw [List.range'_concat, List.reverse_append]
  simp
  omega
theorem kl_lo {M j : Nat} (h : j < M) : (j + 5) :: kl M j = kl M (j + 1) := by
  rw [kl_cons]
  unfold kl
  rw [show j + 1 - M + 5 = j - M + 5 by omega, show min (j + 1) M = min j M + 1 by omega]
theorem kl_hi {M j : Nat} (h : M ≤ j) : (j + 5) :: kl M j = kl M (j + 1) ++ [j - M + 5] := by
  rw [kl_cons]
  unfold kl
  rw [List.range'_succ, List.reverse_cons, show j + 1 - M + 5 = j - M + 5 + 1 by omega, show min (j + 1) M = min j M by omega]
theorem gstep {w v : World} {b M j : Nat} (h : Gs w v b j 10000 (M : Int) (kl M j)) (hM : M ≤ 4096) (hj : j ≤ 5000) (x : Int) (left : Bool) (hx : x = if j < M then 0 else ((j - M + 5 : Nat) : Int)) (hl : left = decide (M ≤ j)) :
    Calls Try.prog 60 #[.pointer (some ⟨b, 0, none⟩), .int .u32 ((j + 5 : Nat) : Int)] v fun e w' => e = .returned (.tuple #[.int .u32 x, .bool left, .int .i64 0]) ∧ Gs w w' b (j + 1) 10000 (M : Int) (kl M (j + 1)) := by
  have hlen := kl_len M j
  refine (h.add_new (by omega) (by omega) (by omega) (j + 5) (by omega) (fun hm => by have := kl_mem.1 hm; omega) (by omega)).mono ?_
  intro e w' h
  unfold AddS at h
  subst hx hl
  by_cases hc : j < M
  · rw [if_pos (by omega), kl_lo hc] at h
    rw [if_pos hc, decide_eq_false (by omega)]
    exact h
  · rw [if_neg (by omega), kl_hi (by omega), List.dropLast_concat] at h
    rw [if_neg hc, decide_eq_true (by omega)]
    obtain ⟨y, hy, he, hr⟩ := h
    rw [List.getLast?_concat] at hy
    cases hy
    exact ⟨he, hr⟩
set_option maxRecDepth 100000 in
set_option maxHeartbeats 4000000 in
theorem gfull_any {w : World} {M m : Nat} (hM : 4090 ≤ M ∧ M ≤ 4096) (hm : m ≤ 20) (HK : ∀ v, Below w.heap.size w v → Calls Try.prog 56 #[] v fun e w' => e = .returned (.bool true) ∧ Below v.heap.size v w') :
    Calls Try.prog 14 #[.int .i64 (M : Int), .int .u8 (m : Int)] w fun e w' => e = .returned (.bool true) ∧ Below w.heap.size w w' := by
  have HNW := Lib.hid (gnew_ok w M hM.2)
  have HK0 := Lib.hid HK
  obtain ⟨A, hA⟩ : ∃ A, M + m = A := ⟨_, rfl⟩
  have HI := Lib.hid (show (4090 ≤ M ∧ M ≤ 4096) ∧ m ≤ 20 ∧ M + m = A from ⟨hM, hm, hA⟩)
  have h1 : ¬ (M : Int) < 4090 := by omega
  have h2 : ¬ 4096 < (M : Int) := by omega
  have h3 : ¬ 20 < (m : Int) := by omega
  have wm : IntKind.i64.wrap (m : Int) = (m : Int) := IntWalk.i64_in _ (by omega)
  have wa : IntKind.i64.wrap ((M : Int) + (m : Int)) = (A : Int) := by rw [IntWalk.i64_in _ (by omega)]; omega
  clear hM hm hA HK
  go_enter Try.func14, Try.ntmps14
  go_wp2_with fail
  refine HNW.out.mono ?_
  rintro e w1 ⟨b, rfl, gs⟩
  have GS := Lib.hid (gs.mono (Nat.le_refl 0) (show 1 ≤ 10000 by omega))
  clear gs HNW
  go_wp2_with fail
  go_loopw [7] (fun iv wr => ∃ j : Nat, j ≤ A ∧ iv = .int .i64 (j : Int) ∧ Hid (Gs w wr b j 10000 (M : Int) (kl M j))) (fun iv _ => A - (intOf iv).toNat)
  case atStart => exact ⟨0, Nat.zero_le _, rfl, GS⟩
  case round =>
    obtain ⟨j, hj, rfl, G0⟩ := hrel
    clear GS
    by_cases hjA : j < A
    · have i1 : (j : Int) < (A : Int) := by omega
      have wi := IntWalk.i64_in ((j : Int) + 1) (by have := HI.out; omega)
      have wu := IntWalk.u32_in (j : Int) (by have := HI.out; omega)
      have wu2 : IntKind.u32.wrap ((j : Int) + 5) = ((j + 5 : Nat) : Int) := by rw [IntWalk.u32_in _ (by have := HI.out; omega)]; omega
      have ws := IntWalk.i64_in ((j : Int) - (M : Int)) (by have := HI.out; omega)
      have ws5 := IntWalk.i64_in ((j : Int) - (M : Int) + 5) (by have := HI.out; omega)
      by_cases hc : j < M
      · have HB2 : Hid (∀ v, Calls Try.prog 70 #[.bool (decide (M ≤ j))] v fun e w' => e = .returned (.int .i64 0) ∧ v = w') := Lib.hid fun v => by
          have h := b2i_any v (decide (M ≤ j))
          rw [decide_eq_false (by omega)] at h ⊢
          exact h
        have hs := adds_ok (gstep G0.out HI.out.1.2 (by have := HI.out; omega) 0 (decide (M ≤ j)) (by rw [if_pos hc]) rfl)
        rw [show ((j + 5 : Nat) : Int) = (j : Int) + 5 by omega] at hs
        have HAD := Lib.hid hs
        clear hs hc
        go_wp2_with fail
        all_goals (
          refine (HB2.out _).mono ?_
          rintro e u ⟨rfl, rfl⟩
          go_wp2_with fail
          refine HAD.out.mono ?_
          rintro e u ⟨rfl, g1⟩
          have G1 := Lib.hid g1
          clear g1 HAD
          go_wp2_with fail
          go_roundw
          case rel => exact ⟨j + 1, by omega, by go_num, G1⟩
          case measure => simp [intOf]; omega)
      · have HB2 : Hid (∀ v, Calls Try.prog 70 #[.bool (decide (M ≤ j))] v fun e w' => e = .returned (.int .i64 1) ∧ v = w') := Lib.hid fun v => by
          have h := b2i_any v (decide (M ≤ j))
          rw [decide_eq_true (by omega)] at h ⊢
          exact h
        have hs := adds_ok (gstep G0.out HI.out.1.2 (by have := HI.out; omega) ((j : Int) - (M : Int) + 5) (decide (M ≤ j)) (by rw [if_neg hc]; omega) rfl)
        rw [show ((j + 5 : Nat) : Int) = (j : Int) + 5 by omega] at hs
        have HAD := Lib.hid hs
        have hc5 : (0 : Int) < (j : Int) - (M : Int) + 5 := by omega
        have wx := IntWalk.u32_in ((j : Int) - (M : Int) + 5) (by have := HI.out; omega)
        clear hs hc
        go_wp2_with fail
        all_goals (
          refine (HB2.out _).mono ?_
          rintro e u ⟨rfl, rfl⟩
          go_wp2_with fail
          refine HAD.out.mono ?_
          rintro e u ⟨rfl, g1⟩
          have G1 := Lib.hid g1
          clear g1 HAD
          go_wp2_with fail
          go_roundw
          case rel => exact ⟨j + 1, by omega, by go_num, G1⟩
          case measure => simp [intOf]; omega)
    · have i1 : ¬ (j : Int) < (A : Int) := by omega
      obtain rfl : j = A := by omega
      have hI := HI.out
      have hl := G0.out.len
      rw [kl_len, show min j M = M by omega] at hl
      have HL := Lib.hid hl
      have ha := G0.out.has (j + 4) (by omega)
      rw [decide_eq_true (kl_mem.2 ⟨by omega, by omega⟩), show ((j + 4 : Nat) : Int) = (j : Int) + 4 by omega] at ha
      have HA := Lib.hid ha
      have hb := G0.out.has (j + 5) (by omega)
      rw [decide_eq_false (fun h => by have := kl_mem.1 h; omega), show ((j + 5 : Nat) : Int) = (j : Int) + 5 by omega] at hb
      have HB := Lib.hid hb
      have wu := IntWalk.u32_in (j : Int) (by omega)
      have wu4 := IntWalk.u32_in ((j : Int) + 4) (by omega)
      have wu5 := IntWalk.u32_in ((j : Int) + 5) (by omega)
      have HKN := Lib.hid (HK0.out wr G0.out.bl)
      have HBL := Lib.hid G0.out.bl
      clear hI hl ha hb HI HK0 hj hjA i1
      go_wp2_with fail
      refine HL.out.mono ?_
      rintro e u ⟨rfl, rfl⟩
      go_wp2_with fail
      refine HA.out.mono ?_
      rintro e u ⟨rfl, rfl⟩
      go_wp2_with fail
      refine HB.out.mono ?_
      rintro e u ⟨rfl, rfl⟩
      go_wp2_with fail
      refine HKN.out.mono ?_
      rintro e u ⟨rfl, bl⟩
      go_wp2_with fail
      go_ret
      have hs := HBL.out.size
      exact ⟨rfl, ((Kp.of (bad := fun _ => False) HBL.out).tr bl).below (fun k hk h => h) (Nat.le_refl _)⟩
set_option maxRecDepth 100000 in
theorem lfull_any {w : World} {n m : Int} (hm0 : 0 ≤ m) (HK : ∀ v, Below w.heap.size w v → Calls Try.prog 56 #[] v fun e w' => e = .returned (.bool true) ∧ Below v.heap.size v w') :
    Calls Try.prog 14 #[.int .i64 n, .int .u8 m] w fun e w' => e = .returned (.bool true) ∧ Below w.heap.size w w' := by
  by_cases hc : 4090 ≤ n ∧ n ≤ 4096 ∧ m ≤ 20
  · obtain ⟨M, rfl⟩ := Int.eq_ofNat_of_zero_le (show 0 ≤ n by omega)
    obtain ⟨k, rfl⟩ := Int.eq_ofNat_of_zero_le hm0
    exact gfull_any (by omega) (by omega) HK
  · have HKN := Lib.hid (HK w (Below.refl _ _))
    have hd : n < 4090 ∨ (¬ n < 4090 ∧ 4096 < n) ∨ (¬ n < 4090 ∧ ¬ 4096 < n ∧ 20 < m) := by omega
    clear hc HK hm0
    rcases hd with h1 | ⟨h1, h2⟩ | ⟨h1, h2, h3⟩
    all_goals (
      go_enter Try.func14, Try.ntmps14
      go_wp2_with fail
      refine HKN.out.mono ?_
      rintro e u ⟨rfl, bl⟩
      go_wp2_with fail
      go_ret
      exact ⟨rfl, bl⟩)
end Go.Proofs.Ytjcabdnjimcdgaa.Gho
