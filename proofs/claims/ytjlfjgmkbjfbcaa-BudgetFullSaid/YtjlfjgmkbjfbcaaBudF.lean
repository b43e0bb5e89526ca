/-
  BudgetFull (layer 17).
-/
import Derived.Test.YtjlfjgmkbjfbcaaBudG
import Derived.Test.YtjlfjgmkbjfbcaaBudL
set_option linter.unusedVariables false
set_option linter.unusedSimpArgs false
namespace Go.Proofs.Ytjlfjgmkbjfbcaa.Bud
open Go.RowKit Kit
set_option maxHeartbeats 2000000 in
theorem Move_full1 (b : Nat) (mc mb n0 c0 n1 c1 : Int) (hs : (S.mk mc mb n0 c0 n1 c1).ok) (c : Int) (hc0 : 0 ≤ c) (hc1 : c ≤ 1099511627776) (hfit : ¬ (n0 + 1 ≤ 2097152 ∧ c0 + c ≤ 2305843009213693952)) (w : World) (hb : Bud w b ⟨mc, mb, n0, c0, n1, c1⟩) :
    Calls Try.prog 16 #[.pointer (some ⟨b, 0, none⟩), .int .i64 1, .int .i64 c] w fun e w' => e = .returned (.int .i64 7) ∧ Below w.heap.size w w' := by
  have HF := Lib.hid (decide_eq_false hfit)
  have HZ := Lib.hid (isZero_no b _ hs w hb)
  have HC := Lib.hid (decide_eq_true (And.intro hc0 hc1))
  have HB := Lib.hid hb
  obtain ⟨o1, o2, o3, o4, o5, o6, o7, o8, o9, o10, o11, o12⟩ := hs
  simp only at o1 o2 o3 o4 o5 o6 o7 o8 o9 o10 o11 o12
  have HP := Lib.hid (plus_in n0 c0 1 c (by omega) (by omega) (by omega) (by omega))
  have HM := Lib.hid (minus_in n1 c1 1 c (by omega) (by omega) (by omega) (by omega))
  clear hfit
  obtain ⟨e0, e1, e2, e3, e4, e5⟩ := hb.cs
  clear hb
  go_enter Try.func16, Try.ntmps16
  go_wp2_with fail
  refine HZ.out.mono ?_
  rintro e w1 ⟨rfl, rfl⟩
  go_wp2_with fail
  refine (isSegment_any 1 _).mono ?_
  rintro e w1 ⟨rfl, rfl⟩
  go_wp2_with fail
  refine (isCost_any c _).mono ?_
  rintro e w1 ⟨rfl, rfl⟩
  rw [HC.out]
  go_wp2_with fail
  refine (HP.out _).mono ?_
  rintro e w1 ⟨rfl, b1⟩
  go_wp2_with fail
  refine (fits_any _ _ _).mono ?_
  rintro e w2 ⟨rfl, b2⟩
  rw [HF.out]
  have b3 := tr b1 b2
  go_wp2_with fail
  go_ret
  exact ⟨rfl, b3⟩
set_option maxHeartbeats 2000000 in
theorem Change_full0 (b : Nat) (mc mb n0 c0 n1 c1 : Int) (hs : (S.mk mc mb n0 c0 n1 c1).ok) (c : Int) (hc0 : 0 ≤ c) (hc1 : c ≤ 1099511627776) (d : Int) (hd0 : 0 ≤ d) (hd1 : d ≤ 1099511627776) (hfit : ¬ (n0 ≤ 2097152 ∧ c0 + (d - c) ≤ 2305843009213693952)) (w : World) (hb : Bud w b ⟨mc, mb, n0, c0, n1, c1⟩) :
    Calls Try.prog 17 #[.pointer (some ⟨b, 0, none⟩), .int .i64 0, .int .i64 c, .int .i64 d] w fun e w' => e = .returned (.int .i64 7) ∧ Below w.heap.size w w' := by
  have HF := Lib.hid (decide_eq_false hfit)
  have HZ := Lib.hid (isZero_no b _ hs w hb)
  have HC := Lib.hid (decide_eq_true (And.intro hc0 hc1))
  have HD := Lib.hid (decide_eq_true (And.intro hd0 hd1))
  have HB := Lib.hid hb
  obtain ⟨o1, o2, o3, o4, o5, o6, o7, o8, o9, o10, o11, o12⟩ := hs
  simp only at o1 o2 o3 o4 o5 o6 o7 o8 o9 o10 o11 o12
  have HP := Lib.hid (plus_in n0 c0 0 (d - c) (by omega) (by omega) (by omega) (by omega))
  rw [Int.add_zero] at HP
  clear hfit
  obtain ⟨e0, e1, e2, e3, e4, e5⟩ := hb.cs
  clear hb
  go_enter Try.func17, Try.ntmps17
  go_wp2_with fail
  refine HZ.out.mono ?_
  rintro e w1 ⟨rfl, rfl⟩
  go_wp2_with fail
  refine (isSegment_any 0 _).mono ?_
  rintro e w1 ⟨rfl, rfl⟩
  go_wp2_with fail
  refine (isCost_any c _).mono ?_
  rintro e w1 ⟨rfl, rfl⟩
  rw [HC.out]
  go_wp2_with fail
  refine (isCost_any d _).mono ?_
  rintro e w1 ⟨rfl, rfl⟩
  rw [HD.out]
  go_wp2_with fail
  refine (HP.out _).mono ?_
  rintro e w1 ⟨rfl, b1⟩
  go_wp2_with fail
  refine (fits_any _ _ _).mono ?_
  rintro e w2 ⟨rfl, b2⟩
  rw [HF.out]
  have b3 := tr b1 b2
  go_wp2_with fail
  go_ret
  exact ⟨rfl, b3⟩
set_option maxHeartbeats 4000000 in
set_option maxRecDepth 100000 in
theorem full_any (less how : Int) (l0 : 0 ≤ less) (h0 : 0 ≤ how) (w : World) :
    Calls Try.prog 6 #[.int .u8 less, .int .u8 how] w fun e w' => e = .returned (.bool true) ∧ Below w.heap.size w w' := by
  by_cases hl : 3 < less
  · clear l0 h0
    go_enter Try.func6, Try.ntmps6
    go_wp2_with (first | (go_at_call 11; refine (known_any _).mono ?_; rintro e w1 ⟨rfl, b1⟩))
    go_ret
    exact ⟨rfl, b1⟩
  by_cases hh : 2 < how
  · have hl2 : less ≤ 3 := by omega
    clear l0 h0 hl
    go_enter Try.func6, Try.ntmps6
    go_wp2_with (first | (go_at_call 11; refine (known_any _).mono ?_; rintro e w1 ⟨rfl, b1⟩))
    go_ret
    exact ⟨rfl, b1⟩
  have hl2 : less ≤ 3 := by omega
  have hh2 : how ≤ 2 := by omega
  clear hl hh
  have HN := Lib.hid (New_ok 1 1 (by decide))
  obtain ⟨K, hK⟩ : ∃ K : Nat, 2097152 - less = (K : Int) := ⟨(2097152 - less).toNat, by omega⟩
  have hwK := IntWalk.i64_in (2097152 - less) (by omega)
  have hK1 : K ≤ 2097152 := by omega
  have hK2 : 2097149 ≤ K := by omega
  have HK := Lib.hid hK
  have HL := Lib.hid l0
  have HL2 := Lib.hid hl2
  go_enter Try.func6, Try.ntmps6
  go_wp2_with fail
  refine (HN.out _).mono ?_
  rintro e w1 ⟨rfl, hw1⟩
  have hb1 : Bud w1 w.heap.size ⟨1, 1, 0, 0, 0, 0⟩ := by rw [hw1]; exact (MapKept.heap_alloc w _).1
  have hB1 : Below w.heap.size w w1 := by rw [hw1]; go_grown
  have hz1 : w.heap.size < w1.heap.size := by rw [hw1]; simp
  clear hw1
  obtain ⟨b, hbw⟩ : ∃ b, w.heap.size = b := ⟨_, rfl⟩
  rw [hbw] at hb1
  have HB1 := Lib.hid hb1
  have HW1 := Lib.hid hB1
  have HBW := Lib.hid hbw
  rw [hbw] at hz1 ⊢
  clear hb1 hB1 hbw hK
  go_wp2_with fail
  refine (Add_ok1 b 1 1 0 0 0 0 (by unfold S.ok; decide) 1099511627776 (by decide) (by decide) (by decide) _ HB1.out).mono ?_
  rintro e w2 ⟨rfl, hb2, n2⟩
  have HB2 := Lib.hid (show Bud w2 b ⟨1, 1, 0, 0, 1, 1099511627776⟩ from by simpa using hb2)
  have HN2 := Lib.hid n2
  clear hb2 n2
  go_wp2_with fail
  refine (Add_ok1 b 1 1 0 0 1 1099511627776 (by unfold S.ok; decide) 0 (by decide) (by decide) (by decide) _ HB2.out).mono ?_
  rintro e w3 ⟨rfl, hb3, n3⟩
  have HB3 := Lib.hid (show Bud w3 b ⟨1, 1, ((0 : Nat) : Int), ((0 : Nat) : Int) * 1099511627776, 2, 1099511627776⟩ from by simpa using hb3)
  have HN3 := Lib.hid (HN2.out.trans n3)
  clear hb3 n3 HN2 HB2
  go_wp2_with fail
  have HZ1 := Lib.hid hz1
  have HFIN := Lib.hid (fun (wx : World) (h : But b w1 wx) => show Below w.heap.size w wx from
    HW1.out.trans (h.below (n := w.heap.size) (by rw [HBW.out]; exact Nat.le_refl _) (by rw [HBW.out]; omega)))
  go_loopw [7] (fun i wr => ∃ k : Nat, k ≤ K ∧ i = .int .i64 k ∧ Bud wr b ⟨1, 1, ((k : Nat) : Int), ((k : Nat) : Int) * 1099511627776, 2, 1099511627776⟩ ∧ But b w1 wr) (fun i _ => K - (intOf i).toNat)
  case atStart => exact ⟨0, by omega, rfl, HB3.out, HN3.out⟩
  case round =>
    obtain ⟨k, hk, rfl, hb, hn⟩ := hrel
    have HB4 := Lib.hid hb
    have HN4 := Lib.hid hn
    have hok : (S.mk 1 1 ((k : Nat) : Int) (((k : Nat) : Int) * 1099511627776) 2 1099511627776).ok := by unfold S.ok; simp only; omega
    have HOK := Lib.hid hok
    clear hb hn hok HB3 HN3 HB1 hz1
    by_cases hlt : k < K
    · have ilt : (k : Int) < 2097152 - less := by have := HK.out; omega
      have hw := IntWalk.i64_in ((k : Int) + 1) (by omega)
      go_wp2_with fail
      refine (Add_ok0 b 1 1 _ _ 2 1099511627776 HOK.out 1099511627776 (by decide) (by decide) (by omega) _ HB4.out).mono ?_
      rintro e w5 ⟨rfl, hb5, n5⟩
      have HB5 := Lib.hid hb5
      have HN5 := Lib.hid (HN4.out.trans n5)
      clear hb5 n5
      go_wp2_with fail
      go_roundw
      case rel => exact ⟨k + 1, by omega, by go_num, by rw [show (((k + 1 : Nat)) : Int) = (k : Int) + 1 by omega, Int.add_mul, Int.one_mul]; exact HB5.out, HN5.out⟩
      case measure => simp [intOf] <;> omega
    · have ilt : ¬ (k : Int) < 2097152 - less := by have := HK.out; omega
      have hkK : (k : Int) = 2097152 - less := by have := HK.out; omega
      clear hlt
      by_cases hz : less = 0
      · subst hz
        have hk3 : (k : Int) = 2097152 := by omega
        rcases (show how = 0 ∨ how = 1 ∨ how = 2 by omega) with hh | hh | hh
        · subst hh
          clear h0 hh2
          go_wp2_with fail
          refine (Add_full0 b 1 1 _ _ 2 1099511627776 HOK.out 0 (by decide) (by decide) (by omega) _ HB4.out).mono ?_
          rintro e w5 ⟨rfl, b5⟩
          have HB5 := Lib.hid (HB4.out.below b5)
          have HN5 := Lib.hid (HN4.out.tr b5)
          go_wp2_with fail
          refine (Add_bad b _ HOK.out 2 0 (by decide) _ HB5.out).mono ?_
          rintro e w6 ⟨rfl, rfl⟩
          go_wp2_with fail
          refine (known_any _).mono ?_
          rintro e wz ⟨rfl, bz⟩
          go_wp2_with fail
          go_ret
          exact ⟨rfl, HFIN.out _ (HN5.out.tr bz)⟩
        · subst hh
          clear h0 hh2
          go_wp2_with fail
          refine (Move_full1 b 1 1 _ _ 2 1099511627776 HOK.out 1099511627776 (by decide) (by decide) (by omega) _ HB4.out).mono ?_
          rintro e w5 ⟨rfl, b5⟩
          have HN5 := Lib.hid (HN4.out.tr b5)
          go_wp2_with fail
          refine (known_any _).mono ?_
          rintro e wz ⟨rfl, bz⟩
          go_wp2_with fail
          go_ret
          exact ⟨rfl, HFIN.out _ (HN5.out.tr bz)⟩
        · subst hh
          clear h0 hh2
          go_wp2_with fail
          refine (Change_full0 b 1 1 _ _ 2 1099511627776 HOK.out 0 (by decide) (by decide) 1099511627776 (by decide) (by decide) (by omega) _ HB4.out).mono ?_
          rintro e w5 ⟨rfl, b5⟩
          have HN5 := Lib.hid (HN4.out.tr b5)
          go_wp2_with fail
          refine (known_any _).mono ?_
          rintro e wz ⟨rfl, bz⟩
          go_wp2_with fail
          go_ret
          exact ⟨rfl, HFIN.out _ (HN5.out.tr bz)⟩
      · have hzb : (less == 0) = false := by rw [beq_eq_false_iff_ne]; exact hz
        have hk3 : (k : Int) + 1 ≤ 2097152 := by omega
        rcases (show how = 0 ∨ how = 1 ∨ how = 2 by omega) with hh | hh | hh
        · subst hh
          clear h0 hh2
          go_wp2_with fail
          refine (Add_ok0 b 1 1 _ _ 2 1099511627776 HOK.out 0 (by decide) (by decide) (by omega) _ HB4.out).mono ?_
          rintro e w5 ⟨rfl, hb5, n5⟩
          have HB5 := Lib.hid hb5
          have HN5 := Lib.hid (HN4.out.trans n5)
          clear hb5 n5
          go_wp2_with fail
          refine (Add_bad b _ (by unfold S.ok; simp only; omega) 2 0 (by decide) _ HB5.out).mono ?_
          rintro e w6 ⟨rfl, rfl⟩
          go_wp2_with fail
          refine (known_any _).mono ?_
          rintro e wz ⟨rfl, bz⟩
          go_wp2_with fail
          go_ret
          exact ⟨rfl, HFIN.out _ (HN5.out.tr bz)⟩
        · subst hh
          clear h0 hh2
          go_wp2_with fail
          refine (Move_ok1 b 1 1 _ _ 2 1099511627776 HOK.out 1099511627776 (by decide) (by decide) (by omega) (by decide) _ HB4.out).mono ?_
          rintro e w5 ⟨rfl, hb5, n5⟩
          have HN5 := Lib.hid (HN4.out.trans n5)
          clear hb5 n5
          go_wp2_with fail
          refine (known_any _).mono ?_
          rintro e wz ⟨rfl, bz⟩
          go_wp2_with fail
          go_ret
          exact ⟨rfl, HFIN.out _ (HN5.out.tr bz)⟩
        · subst hh
          clear h0 hh2
          go_wp2_with fail
          refine (Change_ok0 b 1 1 _ _ 2 1099511627776 HOK.out 0 (by decide) (by decide) 1099511627776 (by decide) (by decide) (by omega) (by unfold hasB; simp; omega) _ HB4.out).mono ?_
          rintro e w5 ⟨rfl, hb5, n5⟩
          have HN5 := Lib.hid (HN4.out.trans n5)
          clear hb5 n5
          go_wp2_with fail
          refine (known_any _).mono ?_
          rintro e wz ⟨rfl, bz⟩
          go_wp2_with fail
          go_ret
          exact ⟨rfl, HFIN.out _ (HN5.out.tr bz)⟩
end Go.Proofs.Ytjlfjgmkbjfbcaa.Bud
