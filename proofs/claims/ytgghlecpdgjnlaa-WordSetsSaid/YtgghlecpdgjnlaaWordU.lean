/-
  Walks over package word (layer 1), third part: loops over the iterator, the chapter's examples, the laws.
-/
import Derived.Test.YtgghlecpdgjnlaaWordV
import Derived.RangeFuncFrom
import Derived.Maps.AppendAt
namespace Go.Proofs.Ytgghlecpdgjnlaa.Word
open Go.RowKit Kit Go.Shelf

set_option maxHeartbeats 400000 in
theorem same_true (g g2 cap cap2 : Nat) (l : List Int) (w : World) (hl : l.length ≤ 100) (hg : g < w.heap.size) (hg2 : g2 < w.heap.size)
    (hc : ∀ j (hj : j < l.length), w.cell? ⟨g, j, none⟩ = some (.int .i64 l[j])) (hc2 : ∀ j (hj : j < l.length), w.cell? ⟨g2, j, none⟩ = some (.int .i64 l[j])) :
    Calls Try.prog 50 #[.slice (some ⟨g, 0, none⟩) l.length cap, .slice (some ⟨g2, 0, none⟩) l.length cap2] w fun e w' => e = .returned (.bool true) ∧ Below w.heap.size w w' := by
  go_enter Try.func50, Try.ntmps50
  go_wp2
  go_loopw [5] (fun i wr => ∃ k : Nat, k ≤ l.length ∧ i = .int .i64 k ∧ Below w.heap.size w wr) (fun i _ => l.length - (intOf i).toNat)
  case atStart => exact ⟨0, by omega, rfl, Below.refl _ _⟩
  case round =>
    obtain ⟨k, hk, rfl, hb⟩ := hrel
    by_cases hlt : k < l.length
    · have h1 := (hb.cell (p := ⟨g, k, none⟩) hg).trans (hc k hlt)
      have h2 := (hb.cell (p := ⟨g2, k, none⟩) hg2).trans (hc2 k hlt)
      generalize l[k] = x at *
      clear hc hc2
      have hk0 : (0 : Int) ≤ (k : Int) := Int.natCast_nonneg _
      have hk1 : (k : Int) < (l.length : Int) := by omega
      go_wp2
      go_quiet (fail)
      go_wp2
      go_roundw
      case rel => exact ⟨k + 1, by omega, by go_num, below_drewN hb _⟩
      case measure => simp [intOf]; omega
    · go_wp2
      go_ret
      exact ⟨rfl, hb⟩

attribute [local go_sem] Oper.semAt_some
set_option maxRecDepth 100000 in
set_option maxHeartbeats 2000000 in
theorem lawall_true (s : Nat) (hs : s < 256) (g cap : Nat) (w : World) (hne : lst s 8 ≠ []) (hg : g < w.heap.size) (hc : ∀ j (hj : j < (lst s 8).length), w.cell? ⟨g, j, none⟩ = some (.int .i64 (lst s 8)[j])) :
    Calls Try.prog 42 #[.int .u8 s, .slice (some ⟨g, 0, none⟩) (lst s 8).length cap] w fun e w' => e = .returned (.bool true) ∧ Below w.heap.size w w' := by
  have hlen := lst_len s 8
  have HN := Lib.hid hne
  have HC := Lib.hid hc
  clear hne hc
  generalize hL : (lst s 8).length = ll at hlen
  have HL := Lib.hid hL
  clear hL
  obtain ⟨i0, hi, hz0, hz1, hz2⟩ := info_parts info_int
  refine (callsIn_wide (n := 6)).1 ?_
  refine callsIn_of_wp_marks Try.func42 rfl trivial ?_ rfl
  simp only [Try.ntmps42, List.size_toArray, List.length_cons, List.length_nil, Nat.reduceAdd, Nat.reduceSub, Array.replicate_succ, Array.replicate_zero, List.push_toArray, List.append_toArray, List.nil_append, List.cons_append]
  have hnil := fun (wx : World) => run_eql_func_nil (P := Try.prog) wx 47 _ _ _ (.func 45) #[] #[.pointer (some ⟨w.heap.size, 0, none⟩)] Try.underlying47
  gi_wp2_with (refine ⟨trivial, ?_⟩; gi_at_call 28; refine (callsIn_wide.2 (all_any s _)).mono ?_; rintro e w' ⟨rfl, rfl⟩)
  have bB := Boxed.new w 5 (.int .u8 s)
  have bO := Boxed.new (w.alloc (.cells #[.int .u8 s] 5)) 44 (.slice none 0 0)
  rw [World.size_alloc] at bO
  have hB0 : Below w.heap.size w ((w.alloc (.cells #[.int .u8 s] 5)).alloc (.cells #[.slice none 0 0] 44)) := ((Below.refl _ w).alloc (Nat.le_refl _) _).alloc (by simp) _
  refine wpIn_rangeFunc_ownF (encs := fun x : Int => #[.int .i64 x]) (Kp := Below w.heap.size) (S := fun xs => xs = lst s 8) (Sp := fun pre => pre <+: lst s 8) (N := 8) rfl (by decide) (gf := 45) (lb := #[.pointer (some ⟨w.heap.size, 0, none⟩)]) rfl trivial (enters_of Try.func45 (by kernel_rfl) rfl)
    (w0 := (w.alloc (.cells #[.int .u8 s] 5)).alloc (.cells #[.slice none 0 0] 44))
    (fun l J Jx W hW _ _ hY h0 => all1_in (Below w.heap.size) l w.heap.size s hs J Jx hY W ((hW.cell (p := ⟨w.heap.size, 0, none⟩) (by simp; omega)).trans (bB.alloc _).cell) h0)
    belowK_t (belowK_b (by simp; omega)) (Below.refl _ _) (fun _ => rfl)
    (fun pre W => (∃ v, Boxed W (w.heap.size + 1) 44 v ∧ W.ownsRow w.heap.size 3 1 v pre.length (pre.map (Value.int .i64)) ∧ True) ∧ Below w.heap.size w W)
    (fun _ _ _ => False)
    (OwnFrom.and (Own.from (holdsRow_own w.heap.size (w.heap.size + 1) 44 3 1 (fun pre : List Int => pre.length) (fun pre : List Int => pre.map (Value.int .i64)) (fun _ _ => True)) _) (ownFrom_below (Nat.le_refl _) (by simp; omega)))
    (fun _ _ _ _ _ hs _ _ => hs)
    ⟨⟨_, bO, World.ownsRow_nil _ _ _ _, trivial⟩, hB0⟩
    (fun x => { tmps := #[.int .u8 s, .slice (some ⟨g, 0, none⟩) ll cap, undef, undef, .bool false, .func (.func 45) #[] #[.pointer (some ⟨w.heap.size, 0, none⟩)], .pointer (some ⟨w.heap.size + 1, 0, none⟩), .int .i64 x, .int .u8 s,
      .func (.func 45) #[] #[.pointer (some ⟨w.heap.size, 0, none⟩)], .func (.func 45) #[] #[.pointer (some ⟨w.heap.size, 0, none⟩)], .bool false, .func (.func 45) #[] #[.pointer (some ⟨w.heap.size, 0, none⟩)], .int .i64 x,
      undef, undef, undef, undef, undef, undef, undef], defers := [] }) ?assign ?body ?done ?stop
  case assign =>
    intro l x W K hK
    gi_wp2
    exact hK
  case body =>
    rintro l pre x W ⟨⟨v, hv, hrow, _⟩, hB⟩ hlt
    have hcc := hv.cell
    gi_wp2_with (gi_at_builtin; refine wpListIn_append_own _ rfl _ _ 44 rfl w.heap.size 3 i0 (.int .i64 0) 1 8 Try.underlying44 hi hz0 hz1 hz2 rfl (by decide) _ _ _ rfl (hrow.alloc _) ⟨W.heap.size, 0, none⟩ 1 1 [.int .i64 x] rfl rfl (cell_one_new _ _ _) (by simp [Value.oneCell']) (by unfold maxLen; omega) (by omega) (by have := hB.size; simp; omega) ?_; intro v' w1 hown' hgrow _; obtain ⟨g', cap', rfl⟩ := ownsRow_succ hown'; obtain ⟨hv1, hv2, hr2, hk2, hb2⟩ := hv.appended (by decide) hrow hB.size (by omega) hown' hgrow; have hc1 := hv1.cell; have hf1 := hv1.frozen)
    exact ⟨hk2, hb2, ⟨_, hv2, by simpa using hr2, trivial⟩, hB.trans hb2⟩
  case done =>
    rintro D ys W hD rfl ⟨⟨v, hv, hrow, _⟩, hB⟩ hK
    have hcc := hv.cell
    rcases own_cases hrow with ⟨_, hn⟩ | ⟨g', cap', rfl, hg1, hg2, _, _, hcs⟩
    · exact absurd hn HN.out
    rw [HL.out] at hcc
    gi_wp2_with (refine ⟨trivial, ?_⟩; gi_at_call 50; rw [← HL.out]; refine (callsIn_wide.2 (same_true g' g cap' cap (lst s 8) _ (by rw [HL.out]; omega) hg2 (by have := hB.size; omega) hcs (fun j hj => (hB.cell (p := ⟨g, j, none⟩) hg).trans (HC.out j hj)))).mono ?_; rintro e w2 ⟨rfl, b2⟩)
    have hK2 := (b2.block D (Array.getElem?_eq_some_iff.1 hK).1).trans hK
    refine ⟨by simp, .inl ⟨_, _, rfl, run_takeDeferred hK2, ?_⟩⟩
    exact ⟨_, results_tmp rfl _ _ _, rfl, (tr hB b2).trans (belowK_b (w := w) (Nat.le_refl _) w2 D _ _ (by simp at hD; omega) hK2 rfl rfl)⟩
  case stop =>
    rintro D c pre W _ _ h _
    exact h.elim

theorem lst70 : lst 70 8 = [1, 2, 6] := by decide +kernel
section
variable (w : World)
theorem match_is (x b r : Int) (hr : setI (fun i => lane x i == b) = r) (h0 : 0 ≤ x) (h1 : x < 18446744073709551616) (hb0 : 0 ≤ b) (hb1 : b < 256) :
    Calls Try.prog 24 #[.int .u64 x, .int .u8 b] w fun e w' => e = .returned (.int .u8 r) ∧ w = w' := by
  rw [← hr]; exact match_any x b h0 h1 hb0 hb1 w
theorem high_is (x r : Int) (hr : setI (fun i => decide (128 ≤ lane x i)) = r) (h0 : 0 ≤ x) (h1 : x < 18446744073709551616) :
    Calls Try.prog 26 #[.int .u64 x] w fun e w' => e = .returned (.int .u8 r) ∧ w = w' := by
  rw [← hr]; exact high_any x h0 h1 w
theorem lane_is (x l r : Int) (hr : lane x l.toNat = r) (h0 : 0 ≤ x) (h1 : x < 18446744073709551616) (l0 : 0 ≤ l) (l1 : l < 8) :
    Calls Try.prog 22 #[.int .u64 x, .int .i64 l] w fun e w' => e = .returned (.tuple #[.int .u8 r, .int .i64 0]) ∧ w = w' := by
  rw [← hr]; exact lane_any x l h0 h1 l0 l1 w
theorem with_is (x l b r : Int) (hr : withI x l.toNat b = r) (h0 : 0 ≤ x) (h1 : x < 18446744073709551616) (l0 : 0 ≤ l) (l1 : l < 8) (hb0 : 0 ≤ b) (hb1 : b < 256) :
    Calls Try.prog 20 #[.int .u64 x, .int .i64 l, .int .u8 b] w fun e w' => e = .returned (.tuple #[.int .u64 r, .int .i64 0]) ∧ Below w.heap.size w w' := by
  rw [← hr]; exact with_any x l b h0 h1 l0 l1 hb0 hb1 w
theorem first_is (s : Nat) (r : Int) (hr : (Lib.trailingZeros8 s : Int) = r) (hs : s < 256) :
    Calls Try.prog 29 #[.int .u8 s] w fun e w' => e = .returned (.int .i64 r) ∧ w = w' := by
  rw [← hr]; exact first_any s hs w
theorem count_is (s : Nat) (r : Int) (hr : (Lib.onesCount s : Int) = r) (hs : s < 256) :
    Calls Try.prog 30 #[.int .u8 s] w fun e w' => e = .returned (.int .i64 r) ∧ w = w' := by
  rw [← hr]; exact count_any s hs w
end
theorem all70 (g cap : Nat) (w : World) (hg : g < w.heap.size) (c0 : w.cell? ⟨g, 0, none⟩ = some (.int .i64 1)) (c1 : w.cell? ⟨g, 1, none⟩ = some (.int .i64 2)) (c2 : w.cell? ⟨g, 2, none⟩ = some (.int .i64 6)) :
    Calls Try.prog 42 #[.int .u8 70, .slice (some ⟨g, 0, none⟩) 3 cap] w fun e w' => e = .returned (.bool true) ∧ Below w.heap.size w w' := by
  refine lawall_true 70 (by decide) g cap w (by rw [lst70]; simp) hg ?_
  rw [lst70]
  intro j hj
  obtain rfl | rfl | rfl : j = 0 ∨ j = 1 ∨ j = 2 := by simp at hj; omega
  · exact c0
  · exact c1
  · exact c2
set_option maxHeartbeats 2000000 in
theorem known_any (w : World) :
    Calls Try.prog 13 #[] w fun e w' => e = .returned (.bool true) ∧ Below w.heap.size w w' := by
  have hmk : ∀ w : World, (Instr.makeSlice 22 (.int .i64 7) (.int .i64 7)).run Try.prog w = .ok (.slice (some ⟨w.heap.size, 0, none⟩) 7 7) (w.alloc (.cells #[.int .u8 0, .int .u8 0, .int .u8 0, .int .u8 0, .int .u8 0, .int .u8 0, .int .u8 0] 5)) := fun _ => by kernel_rfl
  go_enter Try.func13, Try.ntmps13
  go_wp2_with fail
  refine (load_any w.heap.size 0 8 8 1 2 2 255 0 128 2 127 _ (by decide) (by decide) (by decide) (by decide) (by decide) (by decide) (by decide) (by decide) (by decide) (by decide) (by decide)
    (by simp [go_sem]) (by simp [go_sem]) (by simp [go_sem]) (by simp [go_sem]) (by simp [go_sem]) (by simp [go_sem]) (by simp [go_sem]) (by simp [go_sem])).mono ?_
  rintro e w1 ⟨rfl, rfl⟩
  go_wp2_with fail
  refine (match_is _ 9152018134536946177 2 70 (by decide +kernel) (by decide) (by decide) (by decide) (by decide)).mono ?_
  rintro e w1 ⟨rfl, rfl⟩
  go_wp2_with fail
  refine (match_is _ 9152018134536946177 0 16 (by decide +kernel) (by decide) (by decide) (by decide) (by decide)).mono ?_
  rintro e w1 ⟨rfl, rfl⟩
  go_wp2_with fail
  refine (match_is _ 9152018134536946177 3 0 (by decide +kernel) (by decide) (by decide) (by decide) (by decide)).mono ?_
  rintro e w1 ⟨rfl, rfl⟩
  go_wp2_with fail
  refine (high_is _ 9152018134536946177 40 (by decide +kernel) (by decide) (by decide)).mono ?_
  rintro e w1 ⟨rfl, rfl⟩
  go_wp2_with fail
  refine (lane_is _ 9152018134536946177 3 255 (by decide +kernel) (by decide) (by decide) (by decide) (by decide)).mono ?_
  rintro e w1 ⟨rfl, rfl⟩
  go_wp2_with fail
  refine (lane_out 9152018134536946177 8 (by decide) _).mono ?_
  rintro e w1 ⟨rfl, rfl⟩
  go_wp2_with fail
  refine (with_is _ 9152018134536946177 0 9 9152018134536946185 (by decide +kernel) (by decide) (by decide) (by decide) (by decide) (by decide) (by decide)).mono ?_
  rintro e w1 ⟨rfl, b1⟩
  go_wp2_with fail
  refine (lane_is _ 9152018134536946185 0 9 (by decide +kernel) (by decide) (by decide) (by decide) (by decide)).mono ?_
  rintro e w2 ⟨rfl, rfl⟩
  go_wp2_with fail
  refine (load_short _ 7 7 _ (by decide)).mono ?_
  rintro e w2 ⟨rfl, rfl⟩
  go_wp2_with fail
  refine (first_is _ 70 1 (by decide +kernel) (by decide)).mono ?_
  rintro e w2 ⟨rfl, rfl⟩
  go_wp2_with fail
  refine (count_is _ 70 3 (by decide +kernel) (by decide)).mono ?_
  rintro e w2 ⟨rfl, rfl⟩
  go_wp2_with fail
  refine (all70 _ 3 _ (by simp) (by simp [go_sem]) (by simp [go_sem]) (by simp [go_sem])).mono ?_
  rintro e w2 ⟨rfl, b2⟩
  go_wp2_with fail
  refine (first_is _ 0 8 (by decide +kernel) (by decide)).mono ?_
  rintro e w3 ⟨rfl, rfl⟩
  go_wp2_with fail
  refine (repeat_any 1 (by decide) (by decide) _).mono ?_
  rintro e w3 ⟨rfl, rfl⟩
  go_wp2_with fail
  refine (repeat_any 255 (by decide) (by decide) _).mono ?_
  rintro e w3 ⟨rfl, rfl⟩
  go_wp2_with fail
  go_ret
  exact ⟨rfl, tr (tr (by go_grown) b1) (tr (by go_grown) b2)⟩

set_option maxHeartbeats 1000000 in
theorem matches_any (x b : Int) (h0 : 0 ≤ x) (h1 : x < 18446744073709551616) (hb0 : 0 ≤ b) (hb1 : b < 256) (w : World) :
    Calls Try.prog 5 #[.int .u64 x, .int .u8 b] w fun e w' => e = .returned (.bool true) ∧ Below w.heap.size w w' := by
  have e1 : setI (fun i => decide (b ≤ lane x i) && decide (lane x i ≤ b)) = setI (fun i => lane x i == b) := by
    unfold setI
    rw [WordM.setN_congr _ _ (fun i _ => ?_)]
    rw [Bool.eq_iff_iff]; simp; omega
  have e2 : setI (fun i => decide (128 ≤ lane x i) && decide (lane x i ≤ 255)) = setI (fun i => decide (128 ≤ lane x i)) := by
    unfold setI
    rw [WordM.setN_congr _ _ (fun i _ => ?_)]
    have := lane_byte x i
    rw [Bool.eq_iff_iff]; simp; omega
  have m1 := rmatch_any x b b h0 h1
  rw [e1] at m1
  have m2 := rmatch_any x 128 255 h0 h1
  rw [e2] at m2
  generalize hs : setI (fun i => lane x i == b) = s at m1
  generalize ht : setI (fun i => decide (128 ≤ lane x i)) = t at m2
  have k1 := match_any x b h0 h1 hb0 hb1
  rw [hs] at k1
  have k2 := high_any x h0 h1
  rw [ht] at k2
  have M1 := Lib.hid m1; have M2 := Lib.hid m2; have K1 := Lib.hid k1; have K2 := Lib.hid k2
  clear m1 m2 k1 k2 hs ht e1 e2
  go_enter Try.func5, Try.ntmps5
  go_wp2_with fail
  refine (K1.out _).mono ?_
  rintro e w1 ⟨rfl, rfl⟩
  go_wp2_with fail
  refine (M1.out _).mono ?_
  rintro e w1 ⟨rfl, b1⟩
  go_wp2_with fail
  refine (K2.out _).mono ?_
  rintro e w2 ⟨rfl, rfl⟩
  go_wp2_with fail
  refine (M2.out _).mono ?_
  rintro e w2 ⟨rfl, b2⟩
  go_wp2_with fail
  refine (known_any _).mono ?_
  rintro e w3 ⟨rfl, b3⟩
  go_wp2_with fail
  go_ret
  exact ⟨rfl, tr (tr b1 b2) b3⟩
end Go.Proofs.Ytgghlecpdgjnlaa.Word
