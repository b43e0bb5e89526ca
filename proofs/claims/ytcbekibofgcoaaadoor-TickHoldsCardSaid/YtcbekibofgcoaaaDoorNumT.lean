/-
  TickHolds (layer 3): parts.
-/
import Derived.Test.YtcbekibofgcoaaaDoorNumU
import Derived.Laws.BitsAllLaws
set_option linter.unusedVariables false
set_option linter.unusedSimpArgs false
namespace Go.Proofs.YtcbekibofgcoaaaDoor.Num
open Go.RowKit Kit Go.Sort
def pw : Nat → Int
  | 0 => 1 | 1 => 256 | 2 => 65536 | 3 => 16777216 | 4 => 4294967296 | 5 => 1099511627776 | 6 => 281474976710656 | 7 => 72057594037927936 | _ => 18446744073709551616
theorem digit_any (t : Int) (l : Nat) (hl : l < 8) (w : World) (t0 : 0 ≤ t) (t1 : t ≤ 18446744073709551615) :
    Calls Tryd.prog 16 #[.int .u64 t, .int .i64 (l : Int)] w fun e w' => e = .returned (.tuple #[.int .u8 ((t / pw l) % 256), .int .i64 0]) ∧ w = w' := by
  have h7 : t / 72057594037927936 % 256 = t / 72057594037927936 := by omega
  have H7 := Lib.hid (show t / pw 7 % 256 = t / 72057594037927936 from h7)
  clear h7
  obtain rfl | rfl | rfl | rfl | rfl | rfl | rfl | rfl : l = 0 ∨ l = 1 ∨ l = 2 ∨ l = 3 ∨ l = 4 ∨ l = 5 ∨ l = 6 ∨ l = 7 := by omega
  case inl =>
    have h1 : t / pw 0 = t := Int.ediv_one t
    rw [h1]
    go_enter Tryd.func16, Tryd.ntmps16
    go_wp2
    go_ret2
    exact ⟨rfl, rfl⟩
  all_goals
    go_enter Tryd.func16, Tryd.ntmps16
    go_wp2
    go_ret2
    first | exact ⟨rfl, rfl⟩ | exact ⟨by rw [H7.out]; rfl, rfl⟩
theorem due_t (d n : Int) (w : World) (h0 : d ≠ 18446744073709551615) (h : d ≤ n) :
    Calls Tryd.prog 13 #[.int .u64 d, .int .u64 n] w fun e w' => e = .returned (.bool true) ∧ w = w' := by
  have h1 : (d == 18446744073709551615) = false := by rw [beq_eq_false_iff_ne]; exact h0
  go_enter Tryd.func13, Tryd.ntmps13
  go_wp2
  go_ret
  exact ⟨ret_bool (by simp [*]), rfl⟩
theorem due_f (d n : Int) (w : World) (h : n < d) :
    Calls Tryd.prog 13 #[.int .u64 d, .int .u64 n] w fun e w' => e = .returned (.bool false) ∧ w = w' := by
  by_cases h0 : d = 18446744073709551615
  · subst h0
    go_enter Tryd.func13, Tryd.ntmps13
    go_wp2
    go_ret
    exact ⟨rfl, rfl⟩
  · have h1 : (d == 18446744073709551615) = false := by rw [beq_eq_false_iff_ne]; exact h0
    go_enter Tryd.func13, Tryd.ntmps13
    go_wp2
    go_ret
    exact ⟨ret_bool (by simp; omega), rfl⟩
theorem due_n (n : Int) (w : World) :
    Calls Tryd.prog 13 #[.int .u64 18446744073709551615, .int .u64 n] w fun e w' => e = .returned (.bool false) ∧ w = w' := by
  go_enter Tryd.func13, Tryd.ntmps13
  go_wp2
  go_ret
  exact ⟨rfl, rfl⟩
theorem left_n (n : Int) (w : World) :
    Calls Tryd.prog 12 #[.int .u64 18446744073709551615, .int .u64 n] w fun e w' => e = .returned (.int .u64 18446744073709551615) ∧ w = w' := by
  go_enter Tryd.func12, Tryd.ntmps12
  go_wp2
  go_ret
  exact ⟨rfl, rfl⟩
theorem left_0 (d n : Int) (w : World) (h0 : d ≠ 18446744073709551615) (h : d ≤ n) :
    Calls Tryd.prog 12 #[.int .u64 d, .int .u64 n] w fun e w' => e = .returned (.int .u64 0) ∧ w = w' := by
  have HD := Lib.hid (due_t d n w h0 h)
  have h1 : (d == 18446744073709551615) = false := by rw [beq_eq_false_iff_ne]; exact h0
  go_enter Tryd.func12, Tryd.ntmps12
  go_wp2_with (first | (go_at_call 13; refine HD.out.mono ?_; rintro e w2 ⟨rfl, rfl⟩))
  go_ret
  exact ⟨rfl, rfl⟩
theorem left_p (d n : Int) (w : World) (h0 : d ≠ 18446744073709551615) (h : n < d) (hd : d ≤ 18446744073709551615) (n0 : 0 ≤ n) :
    Calls Tryd.prog 12 #[.int .u64 d, .int .u64 n] w fun e w' => e = .returned (.int .u64 (d - n)) ∧ w = w' := by
  have HD := Lib.hid (due_f d n w h)
  have h1 : (d == 18446744073709551615) = false := by rw [beq_eq_false_iff_ne]; exact h0
  have hw := IntWalk.u64_in (d - n) (by omega)
  go_enter Tryd.func12, Tryd.ntmps12
  go_wp2_with (first | (go_at_call 13; refine HD.out.mono ?_; rintro e w2 ⟨rfl, rfl⟩))
  go_ret
  exact ⟨rfl, rfl⟩
def addI (t k : Int) : Int := if 18446744073709551615 - t < k then 18446744073709551615 else t + k
theorem add_any (t k : Int) (w : World) (t0 : 0 ≤ t) (t1 : t ≤ 18446744073709551615) (k0 : 0 ≤ k) (k1 : k ≤ 18446744073709551615) :
    Calls Tryd.prog 14 #[.int .u64 t, .int .u64 k] w fun e w' => e = .returned (.int .u64 (addI t k)) ∧ w = w' := by
  have hw := IntWalk.u64_in (18446744073709551615 - t) (by omega)
  by_cases hb : 18446744073709551615 - t < k
  · have he : addI t k = 18446744073709551615 := if_pos hb
    rw [he]
    clear he
    go_enter Tryd.func14, Tryd.ntmps14
    go_wp2
    go_ret
    exact ⟨rfl, rfl⟩
  · have he : addI t k = t + k := if_neg hb
    have hw2 := IntWalk.u64_in (t + k) (by omega)
    rw [he]
    clear he
    go_enter Tryd.func14, Tryd.ntmps14
    go_wp2
    go_ret
    exact ⟨rfl, rfl⟩
def maxI (a b : Int) : Int := if b > a then b else a
theorem eff_any (a b : Int) (w : World) :
    Calls Tryd.prog 15 #[.int .u64 a, .int .u64 b] w fun e w' => e = .returned (.int .u64 (maxI a b)) ∧ w = w' := by
  unfold maxI
  by_cases hb : b > a
  · rw [if_pos hb]
    go_enter Tryd.func15, Tryd.ntmps15
    go_wp2
    go_ret
    exact ⟨ret_int (by omega), rfl⟩
  · rw [if_neg hb]
    go_enter Tryd.func15, Tryd.ntmps15
    go_wp2
    go_ret
    exact ⟨ret_int (by omega), rfl⟩
theorem pw8 (t : Int) (t0 : 0 ≤ t) (t1 : t ≤ 18446744073709551615) : t / pw 8 = 0 := by
  show t / 18446744073709551616 = 0
  omega
theorem pw_pos (l : Nat) : 0 ≤ pw l := by unfold pw; split <;> decide
theorem pw_step (t : Int) (l : Nat) (hl : l < 8) (t0 : 0 ≤ t) : (t / pw (l + 1)) * 256 + t / pw l % 256 = t / pw l := by
  obtain rfl | rfl | rfl | rfl | rfl | rfl | rfl | rfl : l = 0 ∨ l = 1 ∨ l = 2 ∨ l = 3 ∨ l = 4 ∨ l = 5 ∨ l = 6 ∨ l = 7 := by omega
  all_goals (simp only [pw, Nat.reduceAdd]; omega)
theorem pw_le (t : Int) (l : Nat) (t0 : 0 ≤ t) : t / pw l ≤ t := Int.ediv_le_self _ t0
theorem or_low (S d : Int) (S0 : 0 ≤ S) (d0 : 0 ≤ d) (d1 : d < 256) (h : S * 256 < 18446744073709551616) : bits .or .u64 (S * 256) d = S * 256 + d := by
  obtain ⟨s, rfl⟩ := Int.eq_ofNat_of_zero_le S0
  obtain ⟨x, rfl⟩ := Int.eq_ofNat_of_zero_le d0
  have h1 := Nat.shiftLeft_add_eq_or_of_lt (b := x) (i := 8) (by omega) s
  rw [Nat.shiftLeft_eq] at h1
  rw [show ((s : Nat) : Int) * 256 = ((s * 256 : Nat) : Int) from by omega, u64_or_nat _ _ (by omega) (by omega), show s * 256 ||| x = s * 256 + x from h1.symm]
  omega
theorem txt_size (t : Int) (t1 : t ≤ 18446744073709551615) : (txt t).size ≤ 20 := by
  unfold txt
  split
  · decide
  · show (Lib.decDigits t.toNat).toArray.size ≤ 20
    simp only [List.size_toArray]
    rw [Lib.decDigits_length]
    by_cases h1 : 1 ≤ t.toNat
    · have := Lib.numDigits_eq t.toNat h1 (by omega); split at this <;> omega
    · rw [show t.toNat = 0 by omega, Lib.nDigits_small (by omega)]; omega
theorem pres_txt (t : Int) (t0 : 0 ≤ t) (t1 : t ≤ 18446744073709551615) : pres (txt t) = (t, 0) := by
  by_cases hn : t = 18446744073709551615
  · rw [show txt t = never from if_pos hn, pres_never, hn]
  · have e : txt t = dec t.toNat := if_neg hn
    have hp : Lib.parseUintB 64 (txt t).data.toList = .ok t.toNat := by rw [e]; exact parseB_dec _ (by omega)
    have hne : ¬ txt t = never := by
      intro h
      rw [h, show Lib.parseUintB 64 never.data.toList = .syntax from by rfl] at hp
      cases hp
    unfold pres
    rw [if_neg hne, hp]
    show (if txt ((t.toNat : Nat) : Int) = txt t then (((t.toNat : Nat) : Int), (0 : Int)) else (0, 6)) = (t, 0)
    rw [Int.toNat_of_nonneg t0, if_pos rfl]
theorem parses_txt (t : Int) (t0 : 0 ≤ t) (t1 : t ≤ 18446744073709551615) (w : World) (htab : Tabs w) (he : Errs w) :
    Calls Tryd.prog 11 #[.string (txt t), .int .u64 t, .int .i64 0] w fun r w' => r = .returned (.bool true) ∧ Below w.heap.size w w' := by
  have h := parses_any (txt t) (by have := txt_size t t1; omega) t 0 w htab he
  rw [pres_txt t t0 t1] at h
  simpa using h
set_option maxRecDepth 100000 in
set_option maxHeartbeats 4000000 in
theorem holds_a (n later ticks : Int) (n0 : 0 ≤ n) (n1 : n ≤ 18446744073709551615) (l0 : 0 ≤ later) (l1 : later ≤ 18446744073709551615) (k0 : 0 ≤ ticks) (k1 : ticks ≤ 18446744073709551615) (w : World) (htab : Tabs w) (he : Errs w)
    (HKN : ∀ w1, Below w.heap.size w w1 → Calls Tryd.prog 7 #[] w1 fun e w' => e = .returned (.bool true) ∧ Below w1.heap.size w1 w') :
    Calls Tryd.prog 4 #[.int .u64 18446744073709551615, .int .u64 n, .int .u64 later, .int .u64 ticks] w fun e w' => e = .returned (.bool true) ∧ Below w.heap.size w w' := by
  have HK := Lib.hid HKN
  have HT := Lib.hid (text_any later l0 l1 w htab)
  have HP := Lib.hid (fun (w1 : World) (h1 : Below w.heap.size w w1) => parses_txt later l0 l1 w1 (htab.below h1) (he.below h1))
  have HLeft := Lib.hid (left_n n w)
  have HD := Lib.hid (fun (w1 : World) (x : Int) => due_n x w1)
  have hE := eff_any n later w
  have ha1 : n ≤ maxI n later := by unfold maxI; split <;> omega
  have ha2 : later ≤ maxI n later := by unfold maxI; split <;> omega
  have hE2 := eff_any (maxI n later) n w
  rw [show maxI (maxI n later) n = maxI n later from if_neg (by omega)] at hE2
  have hA := add_any n ticks w n0 n1 k0 k1
  have ha3 : n ≤ addI n ticks := by unfold addI; split <;> omega
  have HE := Lib.hid hE
  have HE2 := Lib.hid hE2
  have HA := Lib.hid hA
  clear htab he HKN hE hE2 hA
  generalize maxI n later = a at *
  generalize addI n ticks = b at *
  generalize txt later = q at *
  go_enter Tryd.func4, Tryd.ntmps4
  go_wp2_with (first
    | (go_at_call 12; refine HLeft.out.mono ?_; rintro e w2 ⟨rfl, rfl⟩)
    | (go_at_call 15; refine HE.out.mono ?_; rintro e w2 ⟨rfl, rfl⟩)
    | (go_at_call 15; refine HE2.out.mono ?_; rintro e w2 ⟨rfl, rfl⟩)
    | (go_at_call 13; refine (HD.out _ _).mono ?_; rintro e w2 ⟨rfl, rfl⟩)
    | (go_at_call 14; refine HA.out.mono ?_; rintro e w2 ⟨rfl, rfl⟩))
  go_loop [11, 12] (fun m i => ∃ j : Nat, j ≤ 8 ∧ i = .int .i64 ((j : Int) - 1) ∧ m = .int .u64 (later / pw j)) (fun _ i => (intOf i + 1).toNat)
  case atStart => exact ⟨8, by omega, rfl, by rw [pw8 later l0 l1]⟩
  case round =>
    obtain ⟨j, hj, rfl, rfl⟩ := hrel
    cases j with
    | zero =>
      have h0 : later / pw 0 = later := Int.ediv_one later
      rw [h0]
      go_wp2_with (first
        | (go_at_call 9; refine HT.out.mono ?_; rintro e w2 ⟨rfl, hb2⟩)
        | (go_at_call 11; refine (HP.out _ hb2).mono ?_; rintro e w4 ⟨rfl, hb4⟩; have hb5 := hb2.trans (hb4.mono hb2.size))
        | (go_at_call 7; refine (HK.out _ hb5).mono ?_; rintro e w6 ⟨rfl, hb6⟩; have hb7 := hb5.trans (hb6.mono hb5.size)))
      go_ret
      exact ⟨rfl, hb7⟩
    | succ l =>
      have HG := Lib.hid (digit_any later l (by omega) w l0 l1)
      have hst := pw_step later l (by omega) l0
      have hS0 : 0 ≤ later / pw (l + 1) := Int.ediv_nonneg l0 (pw_pos _)
      have hR : later / pw l ≤ 18446744073709551615 := by have := pw_le later l l0; omega
      have hd0 : 0 ≤ later / pw l % 256 := Int.emod_nonneg _ (by decide)
      have hd1 : later / pw l % 256 < 256 := Int.emod_lt_of_pos _ (by decide)
      have il : ((l + 1 : Nat) : Int) - 1 = (l : Int) := by omega
      rw [il]
      generalize later / pw (l + 1) = S at *
      generalize later / pw l % 256 = dd at *
      obtain ⟨R, hRe⟩ : ∃ R, R = later / pw l := ⟨_, rfl⟩
      rw [← hRe] at hst hR
      have HR := Lib.hid hRe
      clear hRe
      clear il
      have hwl := IntWalk.i64_in ((l : Int) - 1) (by omega)
      have hws := IntWalk.u64_in (S * 256) (by omega)
      go_wp2_with (first | (go_at_call 16; refine HG.out.mono ?_; rintro e w2 ⟨rfl, rfl⟩))
      go_round
      case rel => exact ⟨l, by omega, by go_num, by rw [or_low S dd hS0 hd0 hd1 (by omega), hst, HR.out]⟩
      case measure => simp [intOf] <;> omega
end Go.Proofs.YtcbekibofgcoaaaDoor.Num
