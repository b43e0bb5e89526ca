/-
  The theorem of layer 17, walked.
-/
import Derived.Test.YtjlfjgmkbjfbcaaBudH
import Derived.Test.YtjlfjgmkbjfbcaaBudP
import Derived.Deep.RegionHeld3
set_option linter.unusedVariables false
set_option linter.unusedSimpArgs false
namespace Go.Proofs.Ytjlfjgmkbjfbcaa.Bud
open Go.RowKit Kit
theorem lfair_any (g c : Int) (w : World) : Calls Try.prog 26 #[.int .i64 g, .int .i64 c] w fun e w' => e = .returned (.bool (fairI g c)) ∧ w = w' := by
  go_enter Try.func26, Try.ntmps26
  go_wp2
  all_goals (go_ret; refine ⟨ret_bool ?_, rfl⟩)
  all_goals (unfold fairI; first | (rw [Bool.eq_iff_iff]; simp; omega) | (simp_all; done) | (simp; omega) | trace_state)
/-- the calls -/
def Acts (w : World) (a : Option Addr) (len : Nat) : Prop := ∀ i, i < len → ∃ x z0 z1 z2 z3, a = some x ∧ x.block < w.heap.size ∧ w.cell? (x.add (i * 4 + 0)) = some (.int .i64 z0) ∧ w.cell? (x.add (i * 4 + 1)) = some (.int .i64 z1) ∧ w.cell? (x.add (i * 4 + 2)) = some (.int .i64 z2) ∧ w.cell? (x.add (i * 4 + 3)) = some (.int .i64 z3)
theorem add_pos (x : Addr) (m k : Nat) (hk : k ≠ 0) : x.add (m + k) = ⟨(x.add m).block, (x.add m).off + k, none⟩ := by
  unfold Addr.add
  by_cases h1 : m = 0
  · subst h1; simp [hk]
  · simp [h1, hk, Nat.add_assoc]
theorem has_again {n t c : Int} (h1 : 0 ≤ n) (h2 : 0 ≤ t) (h3 : n = 0 → t = 0) : hasB (n + 1) (t + c) c = true := by
  unfold hasB
  simp only [Bool.and_eq_true, Bool.or_eq_true, bne_iff_ne, decide_eq_true_eq, beq_iff_eq]
  refine ⟨.inl (by omega), by omega, ?_⟩
  by_cases h : n = 0
  · right; rw [h3 h]; omega
  · left; omega
theorem start_inv {mc mb : Int} (h : 1 ≤ mc ∧ mc ≤ 1048576 ∧ 1 ≤ mb ∧ mb ≤ 1099511627776) : Inv ((0 : Nat) : Int) ⟨mc, mb, 0, 0, 0, 0⟩ :=
  ⟨h, ⟨Int.le_refl _, Int.le_refl _, by simp⟩, ⟨Int.le_refl _, Int.le_refl _, by simp⟩, fun _ => rfl, fun _ => rfl⟩
set_option maxHeartbeats 4000000 in
set_option maxRecDepth 100000 in
theorem holds_any (mc mb g cost : Int) (a : Option Addr) (len cap : Nat) (w : World) (hl : len ≤ 60) (hm : okLim mc mb = true) (hf : fairI g cost = true) (hs : Acts w a len) :
    Calls Try.prog 8 #[.int .i64 mc, .int .i64 mb, .slice a len cap, .int .i64 g, .int .i64 cost] w fun e w' => e = .returned (.bool true) ∧ Below w.heap.size w w' := by
  have HA := Lib.hid (lallowed_any mc mb)
  rw [hm] at HA
  have HF := Lib.hid (lfair_any g cost)
  rw [hf] at HF
  have HN := Lib.hid (New_ok mc mb hm)
  have HLim := Lib.hid (lim_spec hm)
  have HFa := Lib.hid (fair_spec hf)
  have HS := Lib.hid hs
  clear hm hf hs
  go_enter Try.func8, Try.ntmps8
  go_wp2_with fail
  refine (HA.out _).mono ?_
  rintro e w1 ⟨rfl, rfl⟩
  go_wp2_with fail
  refine (HF.out _).mono ?_
  rintro e w1 ⟨rfl, rfl⟩
  go_wp2_with fail
  refine (HN.out _).mono ?_
  rintro e w1 ⟨rfl, hw1⟩
  have hb1 : Bud w1 w.heap.size ⟨mc, mb, 0, 0, 0, 0⟩ := by rw [hw1]; exact (MapKept.heap_alloc w _).1
  have hB1 : Below w.heap.size w w1 := by rw [hw1]; go_grown
  have hz1 : w.heap.size < w1.heap.size := by rw [hw1]; simp
  clear hw1
  obtain ⟨b, hbw⟩ : ∃ b, w.heap.size = b := ⟨_, rfl⟩
  rw [hbw] at hb1
  have HB1 := Lib.hid hb1
  have HW1 := Lib.hid hB1
  have HBW := Lib.hid hbw
  rw [hbw] at hz1 ⊢
  clear hb1 hB1 hbw
  go_wp2_with fail
  go_loopw [13] (fun i wr => ∃ (j : Nat) (s : S), j ≤ len ∧ i = .int .i64 j ∧ Inv j s ∧ Bud wr b s ∧ But b w1 wr) (fun i _ => len - (intOf i).toNat)
  case atStart => exact ⟨0, _, by omega, rfl, start_inv HLim.out, HB1.out, But.refl _ _⟩
  case round =>
    obtain ⟨j, s, hj, rfl, hi, hb, hn⟩ := hrel
    by_cases hlt : j < len
    · obtain ⟨x, z0, z1, z2, z3, hax, hxb, y0, y1, y2, y3⟩ := HS.out j hlt
      have hW : Below w.heap.size w wr := HW1.out.trans (hn.below (by rw [HBW.out]; exact Nat.le_refl _) (by rw [HBW.out]; omega))
      rw [← hW.cell (by first | exact hxb | (unfold Addr.add; split <;> exact hxb))] at y0 y1 y2 y3
      rw [add_pos x _ 1 (by decide)] at y1
      rw [add_pos x _ 2 (by decide)] at y2
      rw [add_pos x _ 3 (by decide)] at y3
      rw [Nat.add_zero] at y0
      subst hax
      have hok := hi.ok (by omega)
      have HI := Lib.hid hi
      have HB := Lib.hid hb
      have HNN := Lib.hid hn
      clear hi hb hn hW
      have hq : BoxA (wr.alloc (Obj.cells #[Value.int IntKind.i64 z0, Value.int IntKind.i64 z1, Value.int IntKind.i64 z2, Value.int IntKind.i64 z3] 37)) wr.heap.size 37 #[Value.int IntKind.i64 z0, Value.int IntKind.i64 z1, Value.int IntKind.i64 z2, Value.int IntKind.i64 z3] := (MapKept.heap_alloc _ _).1
      have HQ := Lib.hid hq
      clear hq
      go_wp2_with fail
      refine (Total_any b s hok _ (HB.out.below (by go_grown))).mono ?_
      rintro e w2 ⟨rfl, q1⟩
      have hq2 := HQ.out.below q1
      have hbb := (HB.out.below (by go_grown)).below q1
      have HQ2 := Lib.hid (But.of (b := b) (tr (by go_grown : Below wr.heap.size wr _) q1))
      have c0 : w2.cell? ⟨wr.heap.size, 0, none⟩ = some (.int .i64 z0) := hq2.cell 0
      have c1 : w2.cell? ⟨wr.heap.size, 1, none⟩ = some (.int .i64 z1) := hq2.cell 1
      have c2 : w2.cell? ⟨wr.heap.size, 2, none⟩ = some (.int .i64 z2) := hq2.cell 2
      have c3 : w2.cell? ⟨wr.heap.size, 3, none⟩ = some (.int .i64 z3) := hq2.cell 3
      have HBB := Lib.hid hbb
      clear hq2 hbb q1 HQ y0 y1 y2 y3
      have j0 : (0 : Int) ≤ j := by omega
      have j1 : (j : Int) ≤ 60 := by omega
      by_cases h0 : z0 = 0
      · obtain rfl := h0
        go_wp2_with fail
        refine (add_step b s j z1 z2 HI.out j0 j1 _ HBB.out).mono ?_
        rintro e w3 ⟨r, s', rfl, hi', hb', hn'⟩
        clear c0 c1 c2 c3
        go_wp2_with fail
        go_roundw
        case rel => exact ⟨j + 1, s', by omega, by go_num, by simpa using hi', hb', (HNN.out.trans HQ2.out).trans hn'⟩
        case measure => simp [intOf]; omega
      by_cases h1 : z0 = 1
      · obtain rfl := h1
        go_wp2_with fail
        refine (remove_step b s j z1 z2 HI.out j0 j1 _ HBB.out).mono ?_
        rintro e w3 ⟨r, s', rfl, hi', hb', hn'⟩
        clear c0 c1 c2 c3
        go_wp2_with fail
        go_roundw
        case rel => exact ⟨j + 1, s', by omega, by go_num, by simpa using hi', hb', (HNN.out.trans HQ2.out).trans hn'⟩
        case measure => simp [intOf]; omega
      by_cases h2 : z0 = 2
      · obtain rfl := h2
        go_wp2_with fail
        refine (move_step b s j z1 z2 HI.out j0 j1 _ HBB.out).mono ?_
        rintro e w3 ⟨r, s', rfl, hi', hb', hn', t1, t2⟩
        clear c0 c1 c2 c3
        have HI2 := Lib.hid hi'
        have HB2 := Lib.hid hb'
        have HN2 := Lib.hid hn'
        have ht := Total_any b s' (hi'.ok (by omega)) w3 hb'
        rw [t1, t2] at ht
        have HT := Lib.hid ht
        clear ht t1 t2 hi' hb' hn'
        go_wp2_with fail
        refine (total_true b _ _ _ HT.out).mono ?_
        rintro e w4 ⟨rfl, q2⟩
        go_wp2_with fail
        go_roundw
        case rel => exact ⟨j + 1, s', by omega, by go_num, by simpa using HI2.out, HB2.out.below q2, ((HNN.out.trans HQ2.out).trans HN2.out).trans (But.of q2)⟩
        case measure => simp [intOf]; omega
      by_cases h3 : z0 = 3
      · obtain rfl := h3
        go_wp2_with fail
        refine (change_step b s j z1 z2 z3 HI.out j0 j1 _ HBB.out).mono ?_
        rintro e w3 ⟨r, s', rfl, hi', hb', hn'⟩
        clear c0 c1 c2 c3
        go_wp2_with fail
        go_roundw
        case rel => exact ⟨j + 1, s', by omega, by go_num, by simpa using hi', hb', (HNN.out.trans HQ2.out).trans hn'⟩
        case measure => simp [intOf]; omega
      by_cases h4 : z0 = 4
      · obtain rfl := h4
        go_wp2_with fail
        refine (set_step b s j z2 z3 HI.out j0 j1 _ HBB.out).mono ?_
        rintro e w3 ⟨r, s', rfl, hi', hb', hn'⟩
        clear c0 c1 c2 c3
        go_wp2_with fail
        go_roundw
        case rel => exact ⟨j + 1, s', by omega, by go_num, by simpa using hi', hb', (HNN.out.trans HQ2.out).trans hn'⟩
        case measure => simp [intOf]; omega
      · have e0 : (z0 == 0) = false := by simp [h0]
        have e1 : (z0 == 1) = false := by simp [h1]
        have e2 : (z0 == 2) = false := by simp [h2]
        have e3 : (z0 == 3) = false := by simp [h3]
        have e4 : (z0 == 4) = false := by simp [h4]
        go_wp2_with fail
        go_roundw
        case rel => exact ⟨j + 1, s, by omega, by go_num, by simpa using HI.out.mono, HBB.out, HNN.out.trans HQ2.out⟩
        case measure => simp [intOf]; omega
    · obtain rfl : j = len := by omega
      obtain ⟨hg, hc0, hc1⟩ := HFa.out
      obtain ⟨mc2, mb2, n0, t0, n1, t1⟩ := s
      have hok := hi.ok (by omega)
      obtain ⟨a1, ⟨a2, a3, a4⟩, ⟨a5, a6, a7⟩, a8, a9⟩ := hi
      simp only at a1 a2 a3 a4 a5 a6 a7 a8 a9
      have HB := Lib.hid hb
      have HNN := Lib.hid hn
      clear hb hn
      rcases hg with rfl | rfl
      · have ok4 : (S.mk mc2 mb2 (n0 + 1) (t0 + cost) n1 t1).ok := ⟨a1.1, a1.2.1, a1.2.2.1, a1.2.2.2, by show 0 ≤ n0 + 1; omega, by show n0 + 1 ≤ _; omega, by show 0 ≤ t0 + cost; omega, by show t0 + cost ≤ _; omega, a3, by show n1 ≤ _; omega, a6, by show t1 ≤ _; omega⟩
        have hhas : hasB (n0 + 1) (t0 + cost) cost = true := has_again a2 a5 a8
        clear a8 a9
        go_wp2_with fail
        refine (Used_0 b _ hok _ HB.out).mono ?_
        rintro e w2 ⟨rfl, q2⟩
        have HB2 := Lib.hid (HB.out.below q2)
        go_wp2_with fail
        refine (Used_1 b _ hok _ HB2.out).mono ?_
        rintro e w3 ⟨rfl, q3⟩
        have HB3 := Lib.hid (HB2.out.below q3)
        have HQ3 := Lib.hid ((HNN.out.trans (But.of q2)).trans (But.of q3))
        clear q2 q3
        go_wp2_with fail
        refine (Add_ok0 b mc2 mb2 n0 t0 n1 t1 hok cost hc0 hc1 ⟨by omega, by omega⟩ _ HB3.out).mono ?_
        rintro e w4 ⟨rfl, hb4, hn4⟩
        have hok4 : (S.mk mc2 mb2 (n0 + 1) (t0 + cost) n1 t1).ok := ok4
        have HB4 := Lib.hid hb4
        have HN4 := Lib.hid hn4
        clear hb4 hn4
        go_wp2_with fail
        refine (used_true b 0 _ _ _ (Used_0 b _ hok4 _ HB4.out)).mono ?_
        rintro e w5 ⟨rfl, q5⟩
        have HB5 := Lib.hid (HB4.out.below q5)
        have HQ5 := Lib.hid ((HQ3.out.trans HN4.out).trans (But.of q5))
        clear q5
        go_wp2_with fail
        refine (Remove_ok0 b mc2 mb2 (n0 + 1) (t0 + cost) n1 t1 hok4 cost hc0 hc1 hhas _ HB5.out).mono ?_
        rintro e w6 ⟨rfl, hb6, hn6⟩
        have hb7 : Bud w6 b ⟨mc2, mb2, n0, t0, n1, t1⟩ := by
          have e1 : n0 + 1 - 1 = n0 := by omega
          have e2 : t0 + cost - cost = t0 := by omega
          rw [e1, e2] at hb6
          exact hb6
        have HB6 := Lib.hid hb7
        have HQ6 := Lib.hid (HQ5.out.trans hn6)
        clear hb6 hn6 hb7
        go_wp2_with fail
        refine (used_true b 0 _ _ _ (Used_0 b _ hok _ HB6.out)).mono ?_
        rintro e w7 ⟨rfl, q7⟩
        have HB7 := Lib.hid (HB6.out.below q7)
        have HQ7 := Lib.hid (HQ6.out.trans (But.of q7))
        clear q7
        go_wp2_with fail
        refine (used_true b 1 _ _ _ (Used_1 b _ hok _ HB7.out)).mono ?_
        rintro e w8 ⟨rfl, q8⟩
        have HB8 := Lib.hid (HB7.out.below q8)
        have HQ8 := Lib.hid (HQ7.out.trans (But.of q8))
        clear q8
        go_wp2_with fail
        have ht := Total_any b _ hok _ HB8.out
        
        have HT := Lib.hid ht
        clear ht
        refine (total_true b _ _ _ HT.out).mono ?_
        rintro e w9 ⟨rfl, q9⟩
        have HQ9 := Lib.hid (HQ8.out.trans (But.of q9))
        clear q9
        go_wp2_with fail
        refine (known_any _).mono ?_
        rintro e w10 ⟨rfl, q10⟩
        have hfin := HW1.out.trans ((HQ9.out.trans (But.of q10)).below (by rw [HBW.out]; exact Nat.le_refl _) (by rw [HBW.out]; omega) : Below w.heap.size w1 w10)
        go_wp2_with fail
        go_ret
        rw [← HBW.out]
        exact ⟨rfl, hfin⟩
      · have ok4 : (S.mk mc2 mb2 n0 t0 (n1 + 1) (t1 + cost)).ok := ⟨a1.1, a1.2.1, a1.2.2.1, a1.2.2.2, a2, by show n0 ≤ _; omega, a5, by show t0 ≤ _; omega, by show 0 ≤ n1 + 1; omega, by show n1 + 1 ≤ _; omega, by show 0 ≤ t1 + cost; omega, by show t1 + cost ≤ _; omega⟩
        have hhas : hasB (n1 + 1) (t1 + cost) cost = true := has_again a3 a6 a9
        clear a8 a9
        go_wp2_with fail
        refine (Used_1 b _ hok _ HB.out).mono ?_
        rintro e w2 ⟨rfl, q2⟩
        have HB2 := Lib.hid (HB.out.below q2)
        go_wp2_with fail
        refine (Used_0 b _ hok _ HB2.out).mono ?_
        rintro e w3 ⟨rfl, q3⟩
        have HB3 := Lib.hid (HB2.out.below q3)
        have HQ3 := Lib.hid ((HNN.out.trans (But.of q2)).trans (But.of q3))
        clear q2 q3
        go_wp2_with fail
        refine (Add_ok1 b mc2 mb2 n0 t0 n1 t1 hok cost hc0 hc1 ⟨by omega, by omega⟩ _ HB3.out).mono ?_
        rintro e w4 ⟨rfl, hb4, hn4⟩
        have hok4 : (S.mk mc2 mb2 n0 t0 (n1 + 1) (t1 + cost)).ok := ok4
        have HB4 := Lib.hid hb4
        have HN4 := Lib.hid hn4
        clear hb4 hn4
        go_wp2_with fail
        refine (used_true b 1 _ _ _ (Used_1 b _ hok4 _ HB4.out)).mono ?_
        rintro e w5 ⟨rfl, q5⟩
        have HB5 := Lib.hid (HB4.out.below q5)
        have HQ5 := Lib.hid ((HQ3.out.trans HN4.out).trans (But.of q5))
        clear q5
        go_wp2_with fail
        refine (Remove_ok1 b mc2 mb2 n0 t0 (n1 + 1) (t1 + cost) hok4 cost hc0 hc1 hhas _ HB5.out).mono ?_
        rintro e w6 ⟨rfl, hb6, hn6⟩
        have hb7 : Bud w6 b ⟨mc2, mb2, n0, t0, n1, t1⟩ := by
          have e1 : n1 + 1 - 1 = n1 := by omega
          have e2 : t1 + cost - cost = t1 := by omega
          rw [e1, e2] at hb6
          exact hb6
        have HB6 := Lib.hid hb7
        have HQ6 := Lib.hid (HQ5.out.trans hn6)
        clear hb6 hn6 hb7
        go_wp2_with fail
        refine (used_true b 1 _ _ _ (Used_1 b _ hok _ HB6.out)).mono ?_
        rintro e w7 ⟨rfl, q7⟩
        have HB7 := Lib.hid (HB6.out.below q7)
        have HQ7 := Lib.hid (HQ6.out.trans (But.of q7))
        clear q7
        go_wp2_with fail
        refine (used_true b 0 _ _ _ (Used_0 b _ hok _ HB7.out)).mono ?_
        rintro e w8 ⟨rfl, q8⟩
        have HB8 := Lib.hid (HB7.out.below q8)
        have HQ8 := Lib.hid (HQ7.out.trans (But.of q8))
        clear q8
        go_wp2_with fail
        have ht := Total_any b _ hok _ HB8.out
        rw [show (S.mk mc2 mb2 n0 t0 n1 t1).n0 + (S.mk mc2 mb2 n0 t0 n1 t1).n1 = n1 + n0 from Int.add_comm _ _, show (S.mk mc2 mb2 n0 t0 n1 t1).c0 + (S.mk mc2 mb2 n0 t0 n1 t1).c1 = t1 + t0 from Int.add_comm _ _] at ht
        have HT := Lib.hid ht
        clear ht
        refine (total_true b _ _ _ HT.out).mono ?_
        rintro e w9 ⟨rfl, q9⟩
        have HQ9 := Lib.hid (HQ8.out.trans (But.of q9))
        clear q9
        go_wp2_with fail
        refine (known_any _).mono ?_
        rintro e w10 ⟨rfl, q10⟩
        have hfin := HW1.out.trans ((HQ9.out.trans (But.of q10)).below (by rw [HBW.out]; exact Nat.le_refl _) (by rw [HBW.out]; omega) : Below w.heap.size w1 w10)
        go_wp2_with fail
        go_ret
        rw [← HBW.out]
        exact ⟨rfl, hfin⟩
theorem cell_lt {w : World} {p : Addr} {v : Value} (h : w.cell? p = some v) : p.block < w.heap.size := by
  unfold World.cell? at h
  cases hh : w.heap[p.block]? with
  | none => rw [hh] at h; cases h
  | some o => exact (Array.getElem?_eq_some_iff.1 hh).1
theorem add_block (x : Addr) (m : Nat) : (x.add m).block = x.block := by unfold Addr.add; split <;> rfl
set_option maxRecDepth 100000 in
theorem holds_lim (mc mb g cost : Int) (a : Option Addr) (len cap : Nat) (w : World) (h : okLim mc mb = false) :
    Calls Try.prog 8 #[.int .i64 mc, .int .i64 mb, .slice a len cap, .int .i64 g, .int .i64 cost] w fun e w' => e = .returned (.bool true) ∧ Below w.heap.size w w' := by
  have HA := Lib.hid (lallowed_any mc mb)
  rw [h] at HA
  go_enter Try.func8, Try.ntmps8
  go_wp2_with fail
  refine (HA.out _).mono ?_
  rintro e w1 ⟨rfl, rfl⟩
  go_wp2_with fail
  refine (known_any _).mono ?_
  rintro e w2 ⟨rfl, q⟩
  go_wp2_with fail
  go_ret
  exact ⟨rfl, q⟩
set_option maxRecDepth 100000 in
theorem holds_len (mc mb g cost : Int) (a : Option Addr) (len cap : Nat) (w : World) (h : okLim mc mb = true) (hl : 60 < len) :
    Calls Try.prog 8 #[.int .i64 mc, .int .i64 mb, .slice a len cap, .int .i64 g, .int .i64 cost] w fun e w' => e = .returned (.bool true) ∧ Below w.heap.size w w' := by
  have HA := Lib.hid (lallowed_any mc mb)
  rw [h] at HA
  clear h
  go_enter Try.func8, Try.ntmps8
  go_wp2_with fail
  refine (HA.out _).mono ?_
  rintro e w1 ⟨rfl, rfl⟩
  go_wp2_with fail
  refine (known_any _).mono ?_
  rintro e w2 ⟨rfl, q⟩
  go_wp2_with fail
  go_ret
  exact ⟨rfl, q⟩
set_option maxRecDepth 100000 in
theorem holds_fair (mc mb g cost : Int) (a : Option Addr) (len cap : Nat) (w : World) (h : okLim mc mb = true) (hl : ¬ 60 < len) (hf : fairI g cost = false) :
    Calls Try.prog 8 #[.int .i64 mc, .int .i64 mb, .slice a len cap, .int .i64 g, .int .i64 cost] w fun e w' => e = .returned (.bool true) ∧ Below w.heap.size w w' := by
  have HA := Lib.hid (lallowed_any mc mb)
  rw [h] at HA
  have HF := Lib.hid (lfair_any g cost)
  rw [hf] at HF
  clear h hf
  go_enter Try.func8, Try.ntmps8
  go_wp2_with fail
  refine (HA.out _).mono ?_
  rintro e w1 ⟨rfl, rfl⟩
  go_wp2_with fail
  refine (HF.out _).mono ?_
  rintro e w1 ⟨rfl, rfl⟩
  go_wp2_with fail
  refine (known_any _).mono ?_
  rintro e w2 ⟨rfl, q⟩
  go_wp2_with fail
  go_ret
  exact ⟨rfl, q⟩
theorem acts_of {w : World} {a : Option Addr} {len cap : Nat} (h : (a = none ∧ len = 0) ∨ ∃ x, a = some x ∧ len ≤ cap ∧ cap ≤ maxLen ∧ ∀ i, i < len → ∃ z0 z1 z2 z3 : Int, w.cell? (x.add (i * 4 + 0)) = some (.int .i64 z0) ∧ w.cell? (x.add (i * 4 + 1)) = some (.int .i64 z1) ∧ w.cell? (x.add (i * 4 + 2)) = some (.int .i64 z2) ∧ w.cell? (x.add (i * 4 + 3)) = some (.int .i64 z3) ∧ (Lit.int .i64 z0).wf = true ∧ (Lit.int .i64 z1).wf = true ∧ (Lit.int .i64 z2).wf = true ∧ (Lit.int .i64 z3).wf = true) : Acts w a len := by
  rcases h with ⟨-, rfl⟩ | ⟨x, rfl, -, -, h⟩
  · intro i hi; omega
  · intro i hi
    obtain ⟨z0, z1, z2, z3, h0, h1, h2, h3, -⟩ := h i hi
    have := cell_lt h0
    rw [add_block] at this
    exact ⟨x, z0, z1, z2, z3, rfl, this, h0, h1, h2, h3⟩
theorem holds_law (mc mb g cost : Int) (a : Option Addr) (len cap : Nat) (w : World) (hs : Acts w a len) :
    Calls Try.prog 8 #[.int .i64 mc, .int .i64 mb, .slice a len cap, .int .i64 g, .int .i64 cost] w fun e w' => e = .returned (.bool true) ∧ Below w.heap.size w w' := by
  cases hm : okLim mc mb
  · exact holds_lim mc mb g cost a len cap w hm
  by_cases hl : 60 < len
  · exact holds_len mc mb g cost a len cap w hm hl
  cases hf : fairI g cost
  · exact holds_fair mc mb g cost a len cap w hm hl hf
  · exact holds_any mc mb g cost a len cap w (by omega) hm hf hs
end Go.Proofs.Ytjlfjgmkbjfbcaa.Bud
