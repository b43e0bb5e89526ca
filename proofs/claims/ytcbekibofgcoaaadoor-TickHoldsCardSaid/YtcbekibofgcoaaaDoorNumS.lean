/-
  TickHolds (layer 3).
-/
import Derived.Test.YtcbekibofgcoaaaDoorNumT
set_option linter.unusedVariables false
set_option linter.unusedSimpArgs false
namespace Go.Proofs.YtcbekibofgcoaaaDoor.Num
open Go.RowKit Kit Go.Sort
theorem addI_eq (n k m : Int) (h : n + k = m) (h1 : m ≤ 18446744073709551615) : addI n k = m := by
  unfold addI
  split <;> omega
def dueB (d n : Int) : Bool := decide (d ≠ 18446744073709551615 ∧ d ≤ n)
theorem dueB_t {d n : Int} (h : d ≠ 18446744073709551615) (h1 : d ≤ n) : dueB d n = true := by unfold dueB; simp [h, h1]
theorem dueB_f {d n : Int} (h : n < d) : dueB d n = false := by unfold dueB; simp; omega
theorem due_any (d n : Int) (w : World) : Calls Tryd.prog 13 #[.int .u64 d, .int .u64 n] w fun e w' => e = .returned (.bool (dueB d n)) ∧ w = w' := by
  by_cases h : d = 18446744073709551615
  · subst h
    rw [show dueB 18446744073709551615 n = false from by unfold dueB; simp]
    exact due_n n w
  · by_cases h1 : d ≤ n
    · rw [dueB_t h h1]; exact due_t d n w h h1
    · rw [dueB_f (by omega)]; exact due_f d n w (by omega)
set_option maxRecDepth 100000 in
set_option maxHeartbeats 1000000 in
theorem holds_b (d n later ticks : Int) (dn : d ≠ 18446744073709551615) (d01 : 0 ≤ d) (hdn : d ≤ n) (n0 : 0 ≤ n) (n1 : n ≤ 18446744073709551615) (l0 : 0 ≤ later) (l1 : later ≤ 18446744073709551615) (k0 : 0 ≤ ticks) (k1 : ticks ≤ 18446744073709551615) (w : World) (htab : Tabs w) (he : Errs w)
    (HKN : ∀ w1, Below w.heap.size w w1 → Calls Tryd.prog 7 #[] w1 fun e w' => e = .returned (.bool true) ∧ Below w1.heap.size w1 w') :
    Calls Tryd.prog 4 #[.int .u64 d, .int .u64 n, .int .u64 later, .int .u64 ticks] w fun e w' => e = .returned (.bool true) ∧ Below w.heap.size w w' := by
  have HK := Lib.hid HKN
  have HT := Lib.hid (text_any later l0 l1 w htab)
  have HP := Lib.hid (fun (w1 : World) (h1 : Below w.heap.size w w1) => parses_txt later l0 l1 w1 (htab.below h1) (he.below h1))
  have hdb : (d == 18446744073709551615) = false := by rw [beq_eq_false_iff_ne]; exact dn
  have HLeft := Lib.hid (left_0 d n w dn hdn)
  have ha1 : n ≤ maxI n later := by unfold maxI; split <;> omega
  have ha2 : later ≤ maxI n later := by unfold maxI; split <;> omega
  have ha3 : n ≤ addI n ticks := by unfold addI; split <;> omega
  have HAD := Lib.hid (fun (k : Int) (hk : RowKit.Hid (0 ≤ k ∧ k ≤ 18446744073709551615)) => add_any n k w n0 n1 hk.out.1 hk.out.2)
  have B0 := Lib.hid (show 0 ≤ ticks ∧ ticks ≤ 18446744073709551615 from ⟨k0, k1⟩)
  have M2 : maxI (maxI n later) n = maxI n later := if_neg (by omega)
  obtain ⟨a, hM1⟩ : ∃ a, maxI n later = a := ⟨_, rfl⟩
  rw [hM1] at ha1 ha2 M2
  have E1 := Lib.hid hM1
  have E2 := Lib.hid M2
  obtain ⟨b, hb⟩ : ∃ b, addI n ticks = b := ⟨_, rfl⟩
  rw [hb] at ha3
  have A0 := Lib.hid hb
  have D1 := Lib.hid (dueB_t dn hdn)
  have D2 := Lib.hid (dueB_t dn (show d ≤ a by omega))
  have D3 := D2
  have B1 := Lib.hid (show (0 : Int) ≤ 0 ∧ (0 : Int) ≤ 18446744073709551615 from by omega)
  have B2 := B1
  have A1 := Lib.hid (addI_eq n 0 n (by omega) n1)
  have A2 := A1
  clear htab he HKN hM1 M2 hb
  generalize txt later = q at *
  have L0 := Lib.hid l0
  have L1 := Lib.hid l1
  have hf1 : ¬ a < n := by omega
  have hf2 : ¬ a < later := by omega
  have hf3 : ¬ b < n := by omega
  clear l0 l1 n0 n1 k0 k1 ha1 ha2 ha3 hdn d01 dn
  go_enter Tryd.func4, Tryd.ntmps4
  go_wp2_with (first
    | (go_at_call 12; refine HLeft.out.mono ?_; rintro e w2 ⟨rfl, rfl⟩)
    | (go_at_call 15; refine (eff_any _ _ _).mono ?_; rintro e w2 ⟨rfl, rfl⟩; first | rw [E1.out] | rw [E2.out])
    | (go_at_call 13; refine (due_any _ _ _).mono ?_; rintro e w2 ⟨rfl, rfl⟩; first | rw [D1.out] | rw [D2.out] | rw [D3.out])
    | (go_at_call 14; refine (HAD.out _ (by first | exact B0 | exact B1 | exact B2)).mono ?_; rintro e w2 ⟨rfl, rfl⟩; first | rw [A0.out] | rw [A1.out] | rw [A2.out]))
  have l0 := L0.out
  have l1 := L1.out
  clear hf1 hf2 hf3
  go_loop [11, 12] (fun m i => ∃ j : Nat, j ≤ 8 ∧ i = .int .i64 ((j : Int) - 1) ∧ m = .int .u64 (later / pw j)) (fun _ i => (intOf i + 1).toNat)
  case atStart => exact ⟨8, by omega, rfl, by rw [pw8 later l0 l1]⟩
  case round =>
    obtain ⟨j, hj, rfl, rfl⟩ := hrel
    cases j with
    | zero =>
      have h0 : later / pw 0 = later := Int.ediv_one later
      rw [h0]
      go_wp2_with (first
        | (go_at_call 9; refine HT.out.mono ?_; rintro e w2 ⟨rfl, hb2⟩)
        | (go_at_call 11; refine (HP.out _ hb2).mono ?_; rintro e w4 ⟨rfl, hb4⟩; have hb5 := hb2.trans (hb4.mono hb2.size))
        | (go_at_call 7; refine (HK.out _ hb5).mono ?_; rintro e w6 ⟨rfl, hb6⟩; have hb7 := hb5.trans (hb6.mono hb5.size)))
      go_ret
      exact ⟨rfl, hb7⟩
    | succ l =>
      have HG := Lib.hid (digit_any later l (by omega) w l0 l1)
      have hst := pw_step later l (by omega) l0
      have hS0 : 0 ≤ later / pw (l + 1) := Int.ediv_nonneg l0 (pw_pos _)
      have hR : later / pw l ≤ 18446744073709551615 := by have := pw_le later l l0; omega
      have hd0 : 0 ≤ later / pw l % 256 := Int.emod_nonneg _ (by decide)
      have hd1 : later / pw l % 256 < 256 := Int.emod_lt_of_pos _ (by decide)
      have il : ((l + 1 : Nat) : Int) - 1 = (l : Int) := by omega
      rw [il]
      generalize later / pw (l + 1) = S at *
      generalize later / pw l % 256 = dd at *
      obtain ⟨R, hRe⟩ : ∃ R, R = later / pw l := ⟨_, rfl⟩
      rw [← hRe] at hst hR
      have HR := Lib.hid hRe
      clear hRe
      clear il
      have hwl := IntWalk.i64_in ((l : Int) - 1) (by omega)
      have hws := IntWalk.u64_in (S * 256) (by omega)
      go_wp2_with (first | (go_at_call 16; refine HG.out.mono ?_; rintro e w2 ⟨rfl, rfl⟩))
      go_round
      case rel => exact ⟨l, by omega, by go_num, by rw [or_low S dd hS0 hd0 hd1 (by omega), hst, HR.out]⟩
      case measure => simp [intOf] <;> omega
set_option maxRecDepth 100000 in
set_option maxHeartbeats 1000000 in
theorem holds_c (d n later ticks : Int) (dn : d ≠ 18446744073709551615) (d01 : d ≤ 18446744073709551615) (hdn : n < d) (n0 : 0 ≤ n) (n1 : n ≤ 18446744073709551615) (l0 : 0 ≤ later) (l1 : later ≤ 18446744073709551615) (k0 : 0 ≤ ticks) (k1 : ticks ≤ 18446744073709551615) (w : World) (htab : Tabs w) (he : Errs w)
    (HKN : ∀ w1, Below w.heap.size w w1 → Calls Tryd.prog 7 #[] w1 fun e w' => e = .returned (.bool true) ∧ Below w1.heap.size w1 w') :
    Calls Tryd.prog 4 #[.int .u64 d, .int .u64 n, .int .u64 later, .int .u64 ticks] w fun e w' => e = .returned (.bool true) ∧ Below w.heap.size w w' := by
  have HK := Lib.hid HKN
  have HT := Lib.hid (text_any later l0 l1 w htab)
  have HP := Lib.hid (fun (w1 : World) (h1 : Below w.heap.size w w1) => parses_txt later l0 l1 w1 (htab.below h1) (he.below h1))
  have hdb : (d == 18446744073709551615) = false := by rw [beq_eq_false_iff_ne]; exact dn
  have HLeft := Lib.hid (left_p d n w dn hdn d01 n0)
  have ha1 : n ≤ maxI n later := by unfold maxI; split <;> omega
  have ha2 : later ≤ maxI n later := by unfold maxI; split <;> omega
  have ha3 : n ≤ addI n ticks := by unfold addI; split <;> omega
  have HAD := Lib.hid (fun (k : Int) (hk : RowKit.Hid (0 ≤ k ∧ k ≤ 18446744073709551615)) => add_any n k w n0 n1 hk.out.1 hk.out.2)
  have B0 := Lib.hid (show 0 ≤ ticks ∧ ticks ≤ 18446744073709551615 from ⟨k0, k1⟩)
  have M2 : maxI (maxI n later) n = maxI n later := if_neg (by omega)
  obtain ⟨a, hM1⟩ : ∃ a, maxI n later = a := ⟨_, rfl⟩
  rw [hM1] at ha1 ha2 M2
  have E1 := Lib.hid hM1
  have E2 := Lib.hid M2
  obtain ⟨b, hb⟩ : ∃ b, addI n ticks = b := ⟨_, rfl⟩
  rw [hb] at ha3
  have A0 := Lib.hid hb
  have D1 := Lib.hid (dueB_f hdn)
  have D2 := Lib.hid (dueB_t dn (Int.le_refl d))
  have D3 := Lib.hid (dueB_f (show d - 1 < d by omega))
  have B1 := Lib.hid (show (0 : Int) ≤ d - n ∧ d - n ≤ 18446744073709551615 from by omega)
  have B2 := Lib.hid (show (0 : Int) ≤ d - n - 1 ∧ d - n - 1 ≤ 18446744073709551615 from by omega)
  have A1 := Lib.hid (addI_eq n (d - n) d (by omega) d01)
  have A2 := Lib.hid (addI_eq n (d - n - 1) (d - 1) (by omega) (by omega))
  have hlb : ((d - n) == 0) = false := by rw [beq_eq_false_iff_ne]; omega
  have hlp : 0 < d - n := by omega
  have hlw := IntWalk.u64_in (d - n - 1) (by omega)
  clear htab he HKN hM1 M2 hb
  generalize txt later = q at *
  have L0 := Lib.hid l0
  have L1 := Lib.hid l1
  have hf1 : ¬ a < n := by omega
  have hf2 : ¬ a < later := by omega
  have hf3 : ¬ b < n := by omega
  clear l0 l1 n0 n1 k0 k1 ha1 ha2 ha3 hdn d01 dn
  go_enter Tryd.func4, Tryd.ntmps4
  go_wp2_with (first
    | (go_at_call 12; refine HLeft.out.mono ?_; rintro e w2 ⟨rfl, rfl⟩)
    | (go_at_call 15; refine (eff_any _ _ _).mono ?_; rintro e w2 ⟨rfl, rfl⟩; first | rw [E1.out] | rw [E2.out])
    | (go_at_call 13; refine (due_any _ _ _).mono ?_; rintro e w2 ⟨rfl, rfl⟩; first | rw [D1.out] | rw [D2.out] | rw [D3.out])
    | (go_at_call 14; refine (HAD.out _ (by first | exact B0 | exact B1 | exact B2)).mono ?_; rintro e w2 ⟨rfl, rfl⟩; first | rw [A0.out] | rw [A1.out] | rw [A2.out]))
  have l0 := L0.out
  have l1 := L1.out
  clear hf1 hf2 hf3
  go_loop [11, 12] (fun m i => ∃ j : Nat, j ≤ 8 ∧ i = .int .i64 ((j : Int) - 1) ∧ m = .int .u64 (later / pw j)) (fun _ i => (intOf i + 1).toNat)
  case atStart => exact ⟨8, by omega, rfl, by rw [pw8 later l0 l1]⟩
  case round =>
    obtain ⟨j, hj, rfl, rfl⟩ := hrel
    cases j with
    | zero =>
      have h0 : later / pw 0 = later := Int.ediv_one later
      rw [h0]
      go_wp2_with (first
        | (go_at_call 9; refine HT.out.mono ?_; rintro e w2 ⟨rfl, hb2⟩)
        | (go_at_call 11; refine (HP.out _ hb2).mono ?_; rintro e w4 ⟨rfl, hb4⟩; have hb5 := hb2.trans (hb4.mono hb2.size))
        | (go_at_call 7; refine (HK.out _ hb5).mono ?_; rintro e w6 ⟨rfl, hb6⟩; have hb7 := hb5.trans (hb6.mono hb5.size)))
      go_ret
      exact ⟨rfl, hb7⟩
    | succ l =>
      have HG := Lib.hid (digit_any later l (by omega) w l0 l1)
      have hst := pw_step later l (by omega) l0
      have hS0 : 0 ≤ later / pw (l + 1) := Int.ediv_nonneg l0 (pw_pos _)
      have hR : later / pw l ≤ 18446744073709551615 := by have := pw_le later l l0; omega
      have hd0 : 0 ≤ later / pw l % 256 := Int.emod_nonneg _ (by decide)
      have hd1 : later / pw l % 256 < 256 := Int.emod_lt_of_pos _ (by decide)
      have il : ((l + 1 : Nat) : Int) - 1 = (l : Int) := by omega
      rw [il]
      generalize later / pw (l + 1) = S at *
      generalize later / pw l % 256 = dd at *
      obtain ⟨R, hRe⟩ : ∃ R, R = later / pw l := ⟨_, rfl⟩
      rw [← hRe] at hst hR
      have HR := Lib.hid hRe
      clear hRe
      clear il
      have hwl := IntWalk.i64_in ((l : Int) - 1) (by omega)
      have hws := IntWalk.u64_in (S * 256) (by omega)
      go_wp2_with (first | (go_at_call 16; refine HG.out.mono ?_; rintro e w2 ⟨rfl, rfl⟩))
      go_round
      case rel => exact ⟨l, by omega, by go_num, by rw [or_low S dd hS0 hd0 hd1 (by omega), hst, HR.out]⟩
      case measure => simp [intOf] <;> omega
theorem holds_any (d n later ticks : Int) (d0 : 0 ≤ d) (d1 : d ≤ 18446744073709551615) (n0 : 0 ≤ n) (n1 : n ≤ 18446744073709551615) (l0 : 0 ≤ later) (l1 : later ≤ 18446744073709551615) (k0 : 0 ≤ ticks) (k1 : ticks ≤ 18446744073709551615) (w : World) (htab : Tabs w) (he : Errs w)
    (HKN : ∀ w1, Below w.heap.size w w1 → Calls Tryd.prog 7 #[] w1 fun e w' => e = .returned (.bool true) ∧ Below w1.heap.size w1 w') :
    Calls Tryd.prog 4 #[.int .u64 d, .int .u64 n, .int .u64 later, .int .u64 ticks] w fun e w' => e = .returned (.bool true) ∧ Below w.heap.size w w' := by
  by_cases dn : d = 18446744073709551615
  · subst dn
    exact holds_a n later ticks n0 n1 l0 l1 k0 k1 w htab he HKN
  · by_cases hdn : d ≤ n
    · exact holds_b d n later ticks dn d0 hdn n0 n1 l0 l1 k0 k1 w htab he HKN
    · exact holds_c d n later ticks dn d1 (by omega) n0 n1 l0 l1 k0 k1 w htab he HKN
end Go.Proofs.YtcbekibofgcoaaaDoor.Num
