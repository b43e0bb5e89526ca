/-
  Walks over package budget (layer 17): the methods.
-/
import Derived.Test.YtjlfjgmkbjfbcaaBudW
namespace Go.Proofs.Ytjlfjgmkbjfbcaa.Bud
open Go.RowKit Kit

/-- all but block b is kept -/
structure But (b : Nat) (w w' : World) : Prop where
  os : w'.os = w.os
  tape : w'.tape = w.tape
  output : w'.output = w.output
  size : w.heap.size ≤ w'.heap.size
  block : ∀ k, k < w.heap.size → k ≠ b → w'.heap[k]? = w.heap[k]?
theorem But.refl (b : Nat) (w : World) : But b w w := ⟨rfl, rfl, rfl, Nat.le_refl _, fun _ _ _ => rfl⟩
theorem But.trans {b : Nat} {x y z : World} (h : But b x y) (k : But b y z) : But b x z :=
  ⟨k.os.trans h.os, k.tape.trans h.tape, k.output.trans h.output, Nat.le_trans h.size k.size, fun i hi hn => (k.block i (Nat.lt_of_lt_of_le hi h.size) hn).trans (h.block i hi hn)⟩
theorem But.of {b : Nat} {w w' : World} (h : Below w.heap.size w w') : But b w w' := ⟨h.os, h.tape, h.output, h.size, fun k hk _ => h.block k hk⟩
theorem But.setCell {b j : Nat} {w w' : World} (h : But b w w') (v : Value) : But b w (w'.setCell ⟨b, j, none⟩ v) := by
  have hb := (Below.refl b w').setCell (p := ⟨b, j, none⟩) (Nat.le_refl _) v
  exact ⟨hb.os.trans h.os, hb.tape.trans h.tape, hb.output.trans h.output, Nat.le_trans h.size hb.size, fun k hk hn => (Below.heap_setCell w' ⟨b, j, none⟩ v k hn).trans (h.block k hk hn)⟩
theorem But.below {b n : Nat} {w w' : World} (h : But b w w') (hb : n ≤ b) (hn : n ≤ w.heap.size) : Below n w w' :=
  ⟨h.os, h.tape, h.output, h.size, fun k hk => h.block k (by omega) (by omega)⟩
theorem But.drewN {b n : Nat} {w w' : World} (h : But b w w') : But b w (w'.drewN n) := h.trans (But.of (below_drewN (Below.refl _ _) _))

def S.fit (s : S) (g c : Int) : Bool := if g = 0 then decide (s.n0 + 1 ≤ 2097152 ∧ s.c0 + c ≤ 2305843009213693952) else decide (s.n1 + 1 ≤ 2097152 ∧ s.c1 + c ≤ 2305843009213693952)
def S.add (s : S) (g c : Int) : S := if g = 0 then { s with n0 := s.n0 + 1, c0 := s.c0 + c } else { s with n1 := s.n1 + 1, c1 := s.c1 + c }
def fairI (g c : Int) : Bool := decide (0 ≤ g ∧ g < 2) && decide (0 ≤ c ∧ c ≤ 1099511627776)
theorem Add_bad (b : Nat) (s : S) (hs : s.ok) (g c : Int) (hf : fairI g c = false) (w : World) (hb : Bud w b s) :
    Calls Try.prog 15 #[.pointer (some ⟨b, 0, none⟩), .int .i64 g, .int .i64 c] w fun e w' => e = .returned (.int .i64 2) ∧ w = w' := by
  have HZ := Lib.hid (isZero_no b s hs w hb)
  clear hb hs
  go_enter Try.func15, Try.ntmps15
  go_wp2_with fail
  refine HZ.out.mono ?_
  rintro e w1 ⟨rfl, rfl⟩
  go_wp2_with fail
  refine (isSegment_any g _).mono ?_
  rintro e w1 ⟨rfl, rfl⟩
  cases hg : decide (0 ≤ g ∧ g < 2)
  · go_wp2_with fail
    go_ret
    exact ⟨rfl, rfl⟩
  · have HC := Lib.hid (show decide (0 ≤ c ∧ c ≤ 1099511627776) = false by unfold fairI at hf; rw [hg] at hf; simpa using hf)
    clear hf hg
    go_wp2_with fail
    refine (isCost_any c _).mono ?_
    rintro e w1 ⟨rfl, rfl⟩
    rw [HC.out]
    go_wp2_with fail
    go_ret
    exact ⟨rfl, rfl⟩
theorem Remove_bad (b : Nat) (s : S) (hs : s.ok) (g c : Int) (hf : fairI g c = false) (w : World) (hb : Bud w b s) :
    Calls Try.prog 19 #[.pointer (some ⟨b, 0, none⟩), .int .i64 g, .int .i64 c] w fun e w' => e = .returned (.int .i64 2) ∧ w = w' := by
  have HZ := Lib.hid (isZero_no b s hs w hb)
  clear hb hs
  go_enter Try.func19, Try.ntmps19
  go_wp2_with fail
  refine HZ.out.mono ?_
  rintro e w1 ⟨rfl, rfl⟩
  go_wp2_with fail
  refine (isSegment_any g _).mono ?_
  rintro e w1 ⟨rfl, rfl⟩
  cases hg : decide (0 ≤ g ∧ g < 2)
  · go_wp2_with fail
    go_ret
    exact ⟨rfl, rfl⟩
  · have HC := Lib.hid (show decide (0 ≤ c ∧ c ≤ 1099511627776) = false by unfold fairI at hf; rw [hg] at hf; simpa using hf)
    clear hf hg
    go_wp2_with fail
    refine (isCost_any c _).mono ?_
    rintro e w1 ⟨rfl, rfl⟩
    rw [HC.out]
    go_wp2_with fail
    go_ret
    exact ⟨rfl, rfl⟩
theorem Move_bad (b : Nat) (s : S) (hs : s.ok) (g c : Int) (hf : fairI g c = false) (w : World) (hb : Bud w b s) :
    Calls Try.prog 16 #[.pointer (some ⟨b, 0, none⟩), .int .i64 g, .int .i64 c] w fun e w' => e = .returned (.int .i64 2) ∧ w = w' := by
  have HZ := Lib.hid (isZero_no b s hs w hb)
  clear hb hs
  go_enter Try.func16, Try.ntmps16
  go_wp2_with fail
  refine HZ.out.mono ?_
  rintro e w1 ⟨rfl, rfl⟩
  go_wp2_with fail
  refine (isSegment_any g _).mono ?_
  rintro e w1 ⟨rfl, rfl⟩
  cases hg : decide (0 ≤ g ∧ g < 2)
  · go_wp2_with fail
    go_ret
    exact ⟨rfl, rfl⟩
  · have HC := Lib.hid (show decide (0 ≤ c ∧ c ≤ 1099511627776) = false by unfold fairI at hf; rw [hg] at hf; simpa using hf)
    clear hf hg
    go_wp2_with fail
    refine (isCost_any c _).mono ?_
    rintro e w1 ⟨rfl, rfl⟩
    rw [HC.out]
    go_wp2_with fail
    go_ret
    exact ⟨rfl, rfl⟩
theorem Change_bad (b : Nat) (s : S) (hs : s.ok) (g c d : Int) (hf : fairI g c = false ∨ fairI g d = false) (w : World) (hb : Bud w b s) :
    Calls Try.prog 17 #[.pointer (some ⟨b, 0, none⟩), .int .i64 g, .int .i64 c, .int .i64 d] w fun e w' => e = .returned (.int .i64 2) ∧ w = w' := by
  have HZ := Lib.hid (isZero_no b s hs w hb)
  clear hb hs
  go_enter Try.func17, Try.ntmps17
  go_wp2_with fail
  refine HZ.out.mono ?_
  rintro e w1 ⟨rfl, rfl⟩
  go_wp2_with fail
  refine (isSegment_any g _).mono ?_
  rintro e w1 ⟨rfl, rfl⟩
  cases hg : decide (0 ≤ g ∧ g < 2)
  · go_wp2_with fail
    go_ret
    exact ⟨rfl, rfl⟩
  · cases hc : decide (0 ≤ c ∧ c ≤ 1099511627776)
    · have HC := Lib.hid hc
      clear hf hg hc
      go_wp2_with fail
      refine (isCost_any c _).mono ?_
      rintro e w1 ⟨rfl, rfl⟩
      rw [HC.out]
      go_wp2_with fail
      go_ret
      exact ⟨rfl, rfl⟩
    · have HD := Lib.hid (show decide (0 ≤ d ∧ d ≤ 1099511627776) = false by unfold fairI at hf; rw [hg, hc] at hf; simpa using hf)
      have HC := Lib.hid hc
      clear hf hg hc
      go_wp2_with fail
      refine (isCost_any c _).mono ?_
      rintro e w1 ⟨rfl, rfl⟩
      rw [HC.out]
      go_wp2_with fail
      refine (isCost_any d _).mono ?_
      rintro e w1 ⟨rfl, rfl⟩
      rw [HD.out]
      go_wp2_with fail
      go_ret
      exact ⟨rfl, rfl⟩
theorem plus_in (a b c d : Int) (h0 : -4611686018427387904 ≤ a + c) (h1 : a + c ≤ 4611686018427387904) (h2 : -4611686018427387904 ≤ b + d) (h3 : b + d ≤ 4611686018427387904) (w : World) :
    Calls Try.prog 34 #[.agg #[.int .i64 a, .int .i64 b], .agg #[.int .i64 c, .int .i64 d]] w fun e w' => e = .returned (.agg #[.int .i64 (a + c), .int .i64 (b + d)]) ∧ Below w.heap.size w w' := by
  have := plus_any a b c d w
  rwa [show wrap64 (a + c) = a + c by unfold wrap64; omega, show wrap64 (b + d) = b + d by unfold wrap64; omega] at this
theorem Bud.set0 {W : World} {b : Nat} {mc mb n0 c0 n1 c1 : Int} (h : Bud W b ⟨mc, mb, n0, c0, n1, c1⟩) (x y : Int) : Bud ((W.setCell ⟨b, 2, none⟩ (.int .i64 x)).setCell ⟨b, 3, none⟩ (.int .i64 y)) b ⟨mc, mb, x, y, n1, c1⟩ :=
  BoxA.set (BoxA.set h (j := 2) (by simp [S.cells]) (.int .i64 x)) (j := 3) (by simp [S.cells]) (.int .i64 y)
theorem Bud.set1 {W : World} {b : Nat} {mc mb n0 c0 n1 c1 : Int} (h : Bud W b ⟨mc, mb, n0, c0, n1, c1⟩) (x y : Int) : Bud ((W.setCell ⟨b, 4, none⟩ (.int .i64 x)).setCell ⟨b, 5, none⟩ (.int .i64 y)) b ⟨mc, mb, n0, c0, x, y⟩ :=
  BoxA.set (BoxA.set h (j := 4) (by simp [S.cells]) (.int .i64 x)) (j := 5) (by simp [S.cells]) (.int .i64 y)
theorem Bud.drewN {W : World} {b n : Nat} {s : S} (h : Bud W b s) : Bud (W.drewN n) b s := BoxA.below h (below_drewN (Below.refl _ _) _)
theorem minus_in (a b c d : Int) (h0 : -4611686018427387904 ≤ a - c) (h1 : a - c ≤ 4611686018427387904) (h2 : -4611686018427387904 ≤ b - d) (h3 : b - d ≤ 4611686018427387904) (w : World) :
    Calls Try.prog 37 #[.agg #[.int .i64 a, .int .i64 b], .agg #[.int .i64 c, .int .i64 d]] w fun e w' => e = .returned (.agg #[.int .i64 (a - c), .int .i64 (b - d)]) ∧ Below w.heap.size w w' := by
  have := minus_any a b c d w
  rwa [show wrap64 (a + wrap64 (-c)) = a - c by unfold wrap64; omega, show wrap64 (b + wrap64 (-d)) = b - d by unfold wrap64; omega] at this
set_option maxHeartbeats 1000000 in
theorem Add_ok0 (b : Nat) (mc mb n0 c0 n1 c1 : Int) (hs : (S.mk mc mb n0 c0 n1 c1).ok) (c : Int) (hc0 : 0 ≤ c) (hc1 : c ≤ 1099511627776) (hfit : n0 + 1 ≤ 2097152 ∧ c0 + c ≤ 2305843009213693952) (w : World) (hb : Bud w b ⟨mc, mb, n0, c0, n1, c1⟩) :
    Calls Try.prog 15 #[.pointer (some ⟨b, 0, none⟩), .int .i64 0, .int .i64 c] w fun e w' => e = .returned (.int .i64 0) ∧ Bud w' b ⟨mc, mb, n0 + 1, c0 + c, n1, c1⟩ ∧ But b w w' := by
  have HF := Lib.hid (decide_eq_true hfit)
  have HZ := Lib.hid (isZero_no b _ hs w hb)
  have HC := Lib.hid (decide_eq_true (And.intro hc0 hc1))
  have HB := Lib.hid hb
  obtain ⟨o1, o2, o3, o4, o5, o6, o7, o8, o9, o10, o11, o12⟩ := hs
  simp only at o1 o2 o3 o4 o5 o6 o7 o8 o9 o10 o11 o12
  have HP := Lib.hid (plus_in n0 c0 1 c (by omega) (by omega) (by omega) (by omega))
  clear hfit
  obtain ⟨e0, e1, e2, e3, e4, e5⟩ := hb.cs
  clear hb
  go_enter Try.func15, Try.ntmps15
  go_wp2_with fail
  refine HZ.out.mono ?_
  rintro e w1 ⟨rfl, rfl⟩
  go_wp2_with fail
  refine (isSegment_any 0 _).mono ?_
  rintro e w1 ⟨rfl, rfl⟩
  go_wp2_with fail
  refine (isCost_any c _).mono ?_
  rintro e w1 ⟨rfl, rfl⟩
  rw [HC.out]
  go_wp2_with fail
  refine (HP.out _).mono ?_
  rintro e w1 ⟨rfl, b1⟩
  go_wp2_with fail
  refine (fits_any _ _ _).mono ?_
  rintro e w2 ⟨rfl, b2⟩
  rw [HF.out]
  have b3 := tr b1 b2
  have hb2 := Lib.hid (BoxA.below HB.out b3)
  clear e0 e1 e2 e3 e4 e5
  obtain ⟨e0, e1, e2, e3, e4, e5⟩ := Bud.cs hb2.out
  go_wp2_with fail
  go_region_with (go_at_call 34; refine (HP.out _).mono ?_; rintro e w' ⟨rfl, q1⟩; have hb9 : Bud w' b _ := (q1.block b (BoxA.lt hb2.out)).trans hb2.out; have k2 := hb9.cs.2.2.1; have k3 := hb9.cs.2.2.2.1; have k4 := hb9.cs.2.2.2.2.1; have k5 := hb9.cs.2.2.2.2.2; have g2 := BoxA.frozen hb9 2; have g3 := BoxA.frozen hb9 3; have g4 := BoxA.frozen hb9 4; have g5 := BoxA.frozen hb9 5)
  go_wp2_with fail
  go_ret
  exact ⟨rfl, Bud.set0 hb9 _ _, (((But.of (Below.drew b3)).trans (But.of q1)).setCell _).setCell _⟩
set_option maxHeartbeats 1000000 in
theorem Add_full0 (b : Nat) (mc mb n0 c0 n1 c1 : Int) (hs : (S.mk mc mb n0 c0 n1 c1).ok) (c : Int) (hc0 : 0 ≤ c) (hc1 : c ≤ 1099511627776) (hfit : ¬ (n0 + 1 ≤ 2097152 ∧ c0 + c ≤ 2305843009213693952)) (w : World) (hb : Bud w b ⟨mc, mb, n0, c0, n1, c1⟩) :
    Calls Try.prog 15 #[.pointer (some ⟨b, 0, none⟩), .int .i64 0, .int .i64 c] w fun e w' => e = .returned (.int .i64 7) ∧ Below w.heap.size w w' := by
  have HF := Lib.hid (decide_eq_false hfit)
  have HZ := Lib.hid (isZero_no b _ hs w hb)
  have HC := Lib.hid (decide_eq_true (And.intro hc0 hc1))
  have HB := Lib.hid hb
  obtain ⟨o1, o2, o3, o4, o5, o6, o7, o8, o9, o10, o11, o12⟩ := hs
  simp only at o1 o2 o3 o4 o5 o6 o7 o8 o9 o10 o11 o12
  have HP := Lib.hid (plus_in n0 c0 1 c (by omega) (by omega) (by omega) (by omega))
  clear hfit
  obtain ⟨e0, e1, e2, e3, e4, e5⟩ := hb.cs
  clear hb
  go_enter Try.func15, Try.ntmps15
  go_wp2_with fail
  refine HZ.out.mono ?_
  rintro e w1 ⟨rfl, rfl⟩
  go_wp2_with fail
  refine (isSegment_any 0 _).mono ?_
  rintro e w1 ⟨rfl, rfl⟩
  go_wp2_with fail
  refine (isCost_any c _).mono ?_
  rintro e w1 ⟨rfl, rfl⟩
  rw [HC.out]
  go_wp2_with fail
  refine (HP.out _).mono ?_
  rintro e w1 ⟨rfl, b1⟩
  go_wp2_with fail
  refine (fits_any _ _ _).mono ?_
  rintro e w2 ⟨rfl, b2⟩
  rw [HF.out]
  have b3 := tr b1 b2
  have hb2 := Lib.hid (BoxA.below HB.out b3)
  clear e0 e1 e2 e3 e4 e5
  obtain ⟨e0, e1, e2, e3, e4, e5⟩ := Bud.cs hb2.out
  go_wp2_with fail
  go_ret
  exact ⟨rfl, b3⟩
set_option maxHeartbeats 1000000 in
theorem Remove_ok0 (b : Nat) (mc mb n0 c0 n1 c1 : Int) (hs : (S.mk mc mb n0 c0 n1 c1).ok) (c : Int) (hc0 : 0 ≤ c) (hc1 : c ≤ 1099511627776) (hh : hasB n0 c0 c = true) (w : World) (hb : Bud w b ⟨mc, mb, n0, c0, n1, c1⟩) :
    Calls Try.prog 19 #[.pointer (some ⟨b, 0, none⟩), .int .i64 0, .int .i64 c] w fun e w' => e = .returned (.int .i64 0) ∧ Bud w' b ⟨mc, mb, n0 - 1, c0 - c, n1, c1⟩ ∧ But b w w' := by
  have HH := Lib.hid hh
  clear hh
  have HZ := Lib.hid (isZero_no b _ hs w hb)
  have HC := Lib.hid (decide_eq_true (And.intro hc0 hc1))
  have HB := Lib.hid hb
  obtain ⟨o1, o2, o3, o4, o5, o6, o7, o8, o9, o10, o11, o12⟩ := hs
  simp only at o1 o2 o3 o4 o5 o6 o7 o8 o9 o10 o11 o12
  have HM := Lib.hid (minus_in n0 c0 1 c (by omega) (by omega) (by omega) (by omega))
  obtain ⟨e0, e1, e2, e3, e4, e5⟩ := hb.cs
  clear hb
  go_enter Try.func19, Try.ntmps19
  go_wp2_with fail
  refine HZ.out.mono ?_
  rintro e w1 ⟨rfl, rfl⟩
  go_wp2_with fail
  refine (isSegment_any 0 _).mono ?_
  rintro e w1 ⟨rfl, rfl⟩
  go_wp2_with fail
  refine (isCost_any c _).mono ?_
  rintro e w1 ⟨rfl, rfl⟩
  rw [HC.out]
  go_wp2_with fail
  refine (has_any _ _ _ _).mono ?_
  rintro e w1 ⟨rfl, b1⟩
  rw [HH.out]
  have hb2 := Lib.hid (BoxA.below HB.out b1)
  clear e0 e1 e2 e3 e4 e5
  obtain ⟨e0, e1, e2, e3, e4, e5⟩ := Bud.cs hb2.out
  go_wp2_with fail
  go_region_with (go_at_call 37; refine (HM.out _).mono ?_; rintro e w' ⟨rfl, q1⟩; have hb9 : Bud w' b _ := (q1.block b (BoxA.lt hb2.out)).trans hb2.out; have k2 := hb9.cs.2.2.1; have k3 := hb9.cs.2.2.2.1; have k4 := hb9.cs.2.2.2.2.1; have k5 := hb9.cs.2.2.2.2.2; have g2 := BoxA.frozen hb9 2; have g3 := BoxA.frozen hb9 3; have g4 := BoxA.frozen hb9 4; have g5 := BoxA.frozen hb9 5)
  go_wp2_with fail
  go_ret
  exact ⟨rfl, Bud.set0 hb9 _ _, (((But.of (Below.drew b1)).trans (But.of q1)).setCell _).setCell _⟩
set_option maxHeartbeats 1000000 in
theorem Remove_none0 (b : Nat) (mc mb n0 c0 n1 c1 : Int) (hs : (S.mk mc mb n0 c0 n1 c1).ok) (c : Int) (hc0 : 0 ≤ c) (hc1 : c ≤ 1099511627776) (hh : hasB n0 c0 c = false) (w : World) (hb : Bud w b ⟨mc, mb, n0, c0, n1, c1⟩) :
    Calls Try.prog 19 #[.pointer (some ⟨b, 0, none⟩), .int .i64 0, .int .i64 c] w fun e w' => e = .returned (.int .i64 9) ∧ Below w.heap.size w w' := by
  have HH := Lib.hid hh
  clear hh
  have HZ := Lib.hid (isZero_no b _ hs w hb)
  have HC := Lib.hid (decide_eq_true (And.intro hc0 hc1))
  have HB := Lib.hid hb
  obtain ⟨o1, o2, o3, o4, o5, o6, o7, o8, o9, o10, o11, o12⟩ := hs
  simp only at o1 o2 o3 o4 o5 o6 o7 o8 o9 o10 o11 o12
  have HM := Lib.hid (minus_in n0 c0 1 c (by omega) (by omega) (by omega) (by omega))
  obtain ⟨e0, e1, e2, e3, e4, e5⟩ := hb.cs
  clear hb
  go_enter Try.func19, Try.ntmps19
  go_wp2_with fail
  refine HZ.out.mono ?_
  rintro e w1 ⟨rfl, rfl⟩
  go_wp2_with fail
  refine (isSegment_any 0 _).mono ?_
  rintro e w1 ⟨rfl, rfl⟩
  go_wp2_with fail
  refine (isCost_any c _).mono ?_
  rintro e w1 ⟨rfl, rfl⟩
  rw [HC.out]
  go_wp2_with fail
  refine (has_any _ _ _ _).mono ?_
  rintro e w1 ⟨rfl, b1⟩
  rw [HH.out]
  have hb2 := Lib.hid (BoxA.below HB.out b1)
  clear e0 e1 e2 e3 e4 e5
  obtain ⟨e0, e1, e2, e3, e4, e5⟩ := Bud.cs hb2.out
  go_wp2_with fail
  go_ret
  exact ⟨rfl, b1⟩
set_option maxHeartbeats 1000000 in
theorem Change_ok0 (b : Nat) (mc mb n0 c0 n1 c1 : Int) (hs : (S.mk mc mb n0 c0 n1 c1).ok) (c : Int) (hc0 : 0 ≤ c) (hc1 : c ≤ 1099511627776) (d : Int) (hd0 : 0 ≤ d) (hd1 : d ≤ 1099511627776) (hfit : n0 ≤ 2097152 ∧ c0 + (d - c) ≤ 2305843009213693952) (hh : hasB n0 c0 c = true) (w : World) (hb : Bud w b ⟨mc, mb, n0, c0, n1, c1⟩) :
    Calls Try.prog 17 #[.pointer (some ⟨b, 0, none⟩), .int .i64 0, .int .i64 c, .int .i64 d] w fun e w' => e = .returned (.int .i64 0) ∧ Bud w' b ⟨mc, mb, n0, c0 + (d - c), n1, c1⟩ ∧ But b w w' := by
  have HH := Lib.hid hh
  have HF := Lib.hid (decide_eq_true hfit)
  have HZ := Lib.hid (isZero_no b _ hs w hb)
  have HC := Lib.hid (decide_eq_true (And.intro hc0 hc1))
  have HD := Lib.hid (decide_eq_true (And.intro hd0 hd1))
  have HB := Lib.hid hb
  obtain ⟨o1, o2, o3, o4, o5, o6, o7, o8, o9, o10, o11, o12⟩ := hs
  simp only at o1 o2 o3 o4 o5 o6 o7 o8 o9 o10 o11 o12
  have HP := Lib.hid (plus_in n0 c0 0 (d - c) (by omega) (by omega) (by omega) (by omega))
  rw [Int.add_zero] at HP
  have HW := Lib.hid (show IntKind.i64.wrap (d - c) = d - c by rw [IntKind.wrap_i64]; omega)
  clear hfit hh
  obtain ⟨e0, e1, e2, e3, e4, e5⟩ := hb.cs
  clear hb
  go_enter Try.func17, Try.ntmps17
  go_wp2_with fail
  refine HZ.out.mono ?_
  rintro e w1 ⟨rfl, rfl⟩
  go_wp2_with fail
  refine (isSegment_any 0 _).mono ?_
  rintro e w1 ⟨rfl, rfl⟩
  go_wp2_with fail
  refine (isCost_any c _).mono ?_
  rintro e w1 ⟨rfl, rfl⟩
  rw [HC.out]
  go_wp2_with fail
  refine (isCost_any d _).mono ?_
  rintro e w1 ⟨rfl, rfl⟩
  rw [HD.out]
  go_wp2_with fail
  refine (HP.out _).mono ?_
  rintro e w1 ⟨rfl, b1⟩
  go_wp2_with fail
  refine (fits_any _ _ _).mono ?_
  rintro e w2 ⟨rfl, b2⟩
  rw [HF.out]
  have b3 := tr b1 b2
  have hb2 := Lib.hid (BoxA.below HB.out b3)
  clear e0 e1 e2 e3 e4 e5
  obtain ⟨e0, e1, e2, e3, e4, e5⟩ := Bud.cs hb2.out
  go_wp2_with fail
  refine (has_any _ _ _ _).mono ?_
  rintro e w4 ⟨rfl, b4⟩
  rw [HH.out]
  have b5 := tr b3 b4
  have hb2 := Lib.hid (BoxA.below HB.out b5)
  clear e0 e1 e2 e3 e4 e5
  obtain ⟨e0, e1, e2, e3, e4, e5⟩ := Bud.cs hb2.out
  go_wp2_with fail
  go_region_with (go_at_call 34; rw [HW.out]; refine (HP.out _).mono ?_; rintro e w' ⟨rfl, q1⟩; have hb9 : Bud w' b _ := (q1.block b (BoxA.lt hb2.out)).trans hb2.out; have k2 := hb9.cs.2.2.1; have k3 := hb9.cs.2.2.2.1; have k4 := hb9.cs.2.2.2.2.1; have k5 := hb9.cs.2.2.2.2.2; have g2 := BoxA.frozen hb9 2; have g3 := BoxA.frozen hb9 3; have g4 := BoxA.frozen hb9 4; have g5 := BoxA.frozen hb9 5)
  go_wp2_with fail
  go_ret
  exact ⟨rfl, Bud.set0 hb9 _ _, (((But.of (Below.drew b5)).trans (But.of q1)).setCell _).setCell _⟩
set_option maxHeartbeats 1000000 in
theorem Change_none0 (b : Nat) (mc mb n0 c0 n1 c1 : Int) (hs : (S.mk mc mb n0 c0 n1 c1).ok) (c : Int) (hc0 : 0 ≤ c) (hc1 : c ≤ 1099511627776) (d : Int) (hd0 : 0 ≤ d) (hd1 : d ≤ 1099511627776) (hfit : n0 ≤ 2097152 ∧ c0 + (d - c) ≤ 2305843009213693952) (hh : hasB n0 c0 c = false) (w : World) (hb : Bud w b ⟨mc, mb, n0, c0, n1, c1⟩) :
    Calls Try.prog 17 #[.pointer (some ⟨b, 0, none⟩), .int .i64 0, .int .i64 c, .int .i64 d] w fun e w' => e = .returned (.int .i64 9) ∧ Below w.heap.size w w' := by
  have HH := Lib.hid hh
  have HF := Lib.hid (decide_eq_true hfit)
  have HZ := Lib.hid (isZero_no b _ hs w hb)
  have HC := Lib.hid (decide_eq_true (And.intro hc0 hc1))
  have HD := Lib.hid (decide_eq_true (And.intro hd0 hd1))
  have HB := Lib.hid hb
  obtain ⟨o1, o2, o3, o4, o5, o6, o7, o8, o9, o10, o11, o12⟩ := hs
  simp only at o1 o2 o3 o4 o5 o6 o7 o8 o9 o10 o11 o12
  have HP := Lib.hid (plus_in n0 c0 0 (d - c) (by omega) (by omega) (by omega) (by omega))
  rw [Int.add_zero] at HP
  clear hfit hh
  obtain ⟨e0, e1, e2, e3, e4, e5⟩ := hb.cs
  clear hb
  go_enter Try.func17, Try.ntmps17
  go_wp2_with fail
  refine HZ.out.mono ?_
  rintro e w1 ⟨rfl, rfl⟩
  go_wp2_with fail
  refine (isSegment_any 0 _).mono ?_
  rintro e w1 ⟨rfl, rfl⟩
  go_wp2_with fail
  refine (isCost_any c _).mono ?_
  rintro e w1 ⟨rfl, rfl⟩
  rw [HC.out]
  go_wp2_with fail
  refine (isCost_any d _).mono ?_
  rintro e w1 ⟨rfl, rfl⟩
  rw [HD.out]
  go_wp2_with fail
  refine (HP.out _).mono ?_
  rintro e w1 ⟨rfl, b1⟩
  go_wp2_with fail
  refine (fits_any _ _ _).mono ?_
  rintro e w2 ⟨rfl, b2⟩
  rw [HF.out]
  have b3 := tr b1 b2
  have hb2 := Lib.hid (BoxA.below HB.out b3)
  clear e0 e1 e2 e3 e4 e5
  obtain ⟨e0, e1, e2, e3, e4, e5⟩ := Bud.cs hb2.out
  go_wp2_with fail
  refine (has_any _ _ _ _).mono ?_
  rintro e w4 ⟨rfl, b4⟩
  rw [HH.out]
  have b5 := tr b3 b4
  have hb2 := Lib.hid (BoxA.below HB.out b5)
  clear e0 e1 e2 e3 e4 e5
  obtain ⟨e0, e1, e2, e3, e4, e5⟩ := Bud.cs hb2.out
  go_wp2_with fail
  go_ret
  exact ⟨rfl, b5⟩
set_option maxHeartbeats 1000000 in
theorem Add_ok1 (b : Nat) (mc mb n0 c0 n1 c1 : Int) (hs : (S.mk mc mb n0 c0 n1 c1).ok) (c : Int) (hc0 : 0 ≤ c) (hc1 : c ≤ 1099511627776) (hfit : n1 + 1 ≤ 2097152 ∧ c1 + c ≤ 2305843009213693952) (w : World) (hb : Bud w b ⟨mc, mb, n0, c0, n1, c1⟩) :
    Calls Try.prog 15 #[.pointer (some ⟨b, 0, none⟩), .int .i64 1, .int .i64 c] w fun e w' => e = .returned (.int .i64 0) ∧ Bud w' b ⟨mc, mb, n0, c0, n1 + 1, c1 + c⟩ ∧ But b w w' := by
  have HF := Lib.hid (decide_eq_true hfit)
  have HZ := Lib.hid (isZero_no b _ hs w hb)
  have HC := Lib.hid (decide_eq_true (And.intro hc0 hc1))
  have HB := Lib.hid hb
  obtain ⟨o1, o2, o3, o4, o5, o6, o7, o8, o9, o10, o11, o12⟩ := hs
  simp only at o1 o2 o3 o4 o5 o6 o7 o8 o9 o10 o11 o12
  have HP := Lib.hid (plus_in n1 c1 1 c (by omega) (by omega) (by omega) (by omega))
  clear hfit
  obtain ⟨e0, e1, e2, e3, e4, e5⟩ := hb.cs
  clear hb
  go_enter Try.func15, Try.ntmps15
  go_wp2_with fail
  refine HZ.out.mono ?_
  rintro e w1 ⟨rfl, rfl⟩
  go_wp2_with fail
  refine (isSegment_any 1 _).mono ?_
  rintro e w1 ⟨rfl, rfl⟩
  go_wp2_with fail
  refine (isCost_any c _).mono ?_
  rintro e w1 ⟨rfl, rfl⟩
  rw [HC.out]
  go_wp2_with fail
  refine (HP.out _).mono ?_
  rintro e w1 ⟨rfl, b1⟩
  go_wp2_with fail
  refine (fits_any _ _ _).mono ?_
  rintro e w2 ⟨rfl, b2⟩
  rw [HF.out]
  have b3 := tr b1 b2
  have hb2 := Lib.hid (BoxA.below HB.out b3)
  clear e0 e1 e2 e3 e4 e5
  obtain ⟨e0, e1, e2, e3, e4, e5⟩ := Bud.cs hb2.out
  go_wp2_with fail
  go_region_with (go_at_call 34; refine (HP.out _).mono ?_; rintro e w' ⟨rfl, q1⟩; have hb9 : Bud w' b _ := (q1.block b (BoxA.lt hb2.out)).trans hb2.out; have k2 := hb9.cs.2.2.1; have k3 := hb9.cs.2.2.2.1; have k4 := hb9.cs.2.2.2.2.1; have k5 := hb9.cs.2.2.2.2.2; have g2 := BoxA.frozen hb9 2; have g3 := BoxA.frozen hb9 3; have g4 := BoxA.frozen hb9 4; have g5 := BoxA.frozen hb9 5)
  go_wp2_with fail
  go_ret
  exact ⟨rfl, Bud.set1 hb9 _ _, (((But.of (Below.drew b3)).trans (But.of q1)).setCell _).setCell _⟩
set_option maxHeartbeats 1000000 in
theorem Add_full1 (b : Nat) (mc mb n0 c0 n1 c1 : Int) (hs : (S.mk mc mb n0 c0 n1 c1).ok) (c : Int) (hc0 : 0 ≤ c) (hc1 : c ≤ 1099511627776) (hfit : ¬ (n1 + 1 ≤ 2097152 ∧ c1 + c ≤ 2305843009213693952)) (w : World) (hb : Bud w b ⟨mc, mb, n0, c0, n1, c1⟩) :
    Calls Try.prog 15 #[.pointer (some ⟨b, 0, none⟩), .int .i64 1, .int .i64 c] w fun e w' => e = .returned (.int .i64 7) ∧ Below w.heap.size w w' := by
  have HF := Lib.hid (decide_eq_false hfit)
  have HZ := Lib.hid (isZero_no b _ hs w hb)
  have HC := Lib.hid (decide_eq_true (And.intro hc0 hc1))
  have HB := Lib.hid hb
  obtain ⟨o1, o2, o3, o4, o5, o6, o7, o8, o9, o10, o11, o12⟩ := hs
  simp only at o1 o2 o3 o4 o5 o6 o7 o8 o9 o10 o11 o12
  have HP := Lib.hid (plus_in n1 c1 1 c (by omega) (by omega) (by omega) (by omega))
  clear hfit
  obtain ⟨e0, e1, e2, e3, e4, e5⟩ := hb.cs
  clear hb
  go_enter Try.func15, Try.ntmps15
  go_wp2_with fail
  refine HZ.out.mono ?_
  rintro e w1 ⟨rfl, rfl⟩
  go_wp2_with fail
  refine (isSegment_any 1 _).mono ?_
  rintro e w1 ⟨rfl, rfl⟩
  go_wp2_with fail
  refine (isCost_any c _).mono ?_
  rintro e w1 ⟨rfl, rfl⟩
  rw [HC.out]
  go_wp2_with fail
  refine (HP.out _).mono ?_
  rintro e w1 ⟨rfl, b1⟩
  go_wp2_with fail
  refine (fits_any _ _ _).mono ?_
  rintro e w2 ⟨rfl, b2⟩
  rw [HF.out]
  have b3 := tr b1 b2
  have hb2 := Lib.hid (BoxA.below HB.out b3)
  clear e0 e1 e2 e3 e4 e5
  obtain ⟨e0, e1, e2, e3, e4, e5⟩ := Bud.cs hb2.out
  go_wp2_with fail
  go_ret
  exact ⟨rfl, b3⟩
set_option maxHeartbeats 1000000 in
theorem Remove_ok1 (b : Nat) (mc mb n0 c0 n1 c1 : Int) (hs : (S.mk mc mb n0 c0 n1 c1).ok) (c : Int) (hc0 : 0 ≤ c) (hc1 : c ≤ 1099511627776) (hh : hasB n1 c1 c = true) (w : World) (hb : Bud w b ⟨mc, mb, n0, c0, n1, c1⟩) :
    Calls Try.prog 19 #[.pointer (some ⟨b, 0, none⟩), .int .i64 1, .int .i64 c] w fun e w' => e = .returned (.int .i64 0) ∧ Bud w' b ⟨mc, mb, n0, c0, n1 - 1, c1 - c⟩ ∧ But b w w' := by
  have HH := Lib.hid hh
  clear hh
  have HZ := Lib.hid (isZero_no b _ hs w hb)
  have HC := Lib.hid (decide_eq_true (And.intro hc0 hc1))
  have HB := Lib.hid hb
  obtain ⟨o1, o2, o3, o4, o5, o6, o7, o8, o9, o10, o11, o12⟩ := hs
  simp only at o1 o2 o3 o4 o5 o6 o7 o8 o9 o10 o11 o12
  have HM := Lib.hid (minus_in n1 c1 1 c (by omega) (by omega) (by omega) (by omega))
  obtain ⟨e0, e1, e2, e3, e4, e5⟩ := hb.cs
  clear hb
  go_enter Try.func19, Try.ntmps19
  go_wp2_with fail
  refine HZ.out.mono ?_
  rintro e w1 ⟨rfl, rfl⟩
  go_wp2_with fail
  refine (isSegment_any 1 _).mono ?_
  rintro e w1 ⟨rfl, rfl⟩
  go_wp2_with fail
  refine (isCost_any c _).mono ?_
  rintro e w1 ⟨rfl, rfl⟩
  rw [HC.out]
  go_wp2_with fail
  refine (has_any _ _ _ _).mono ?_
  rintro e w1 ⟨rfl, b1⟩
  rw [HH.out]
  have hb2 := Lib.hid (BoxA.below HB.out b1)
  clear e0 e1 e2 e3 e4 e5
  obtain ⟨e0, e1, e2, e3, e4, e5⟩ := Bud.cs hb2.out
  go_wp2_with fail
  go_region_with (go_at_call 37; refine (HM.out _).mono ?_; rintro e w' ⟨rfl, q1⟩; have hb9 : Bud w' b _ := (q1.block b (BoxA.lt hb2.out)).trans hb2.out; have k2 := hb9.cs.2.2.1; have k3 := hb9.cs.2.2.2.1; have k4 := hb9.cs.2.2.2.2.1; have k5 := hb9.cs.2.2.2.2.2; have g2 := BoxA.frozen hb9 2; have g3 := BoxA.frozen hb9 3; have g4 := BoxA.frozen hb9 4; have g5 := BoxA.frozen hb9 5)
  go_wp2_with fail
  go_ret
  exact ⟨rfl, Bud.set1 hb9 _ _, (((But.of (Below.drew b1)).trans (But.of q1)).setCell _).setCell _⟩
set_option maxHeartbeats 1000000 in
theorem Remove_none1 (b : Nat) (mc mb n0 c0 n1 c1 : Int) (hs : (S.mk mc mb n0 c0 n1 c1).ok) (c : Int) (hc0 : 0 ≤ c) (hc1 : c ≤ 1099511627776) (hh : hasB n1 c1 c = false) (w : World) (hb : Bud w b ⟨mc, mb, n0, c0, n1, c1⟩) :
    Calls Try.prog 19 #[.pointer (some ⟨b, 0, none⟩), .int .i64 1, .int .i64 c] w fun e w' => e = .returned (.int .i64 9) ∧ Below w.heap.size w w' := by
  have HH := Lib.hid hh
  clear hh
  have HZ := Lib.hid (isZero_no b _ hs w hb)
  have HC := Lib.hid (decide_eq_true (And.intro hc0 hc1))
  have HB := Lib.hid hb
  obtain ⟨o1, o2, o3, o4, o5, o6, o7, o8, o9, o10, o11, o12⟩ := hs
  simp only at o1 o2 o3 o4 o5 o6 o7 o8 o9 o10 o11 o12
  have HM := Lib.hid (minus_in n1 c1 1 c (by omega) (by omega) (by omega) (by omega))
  obtain ⟨e0, e1, e2, e3, e4, e5⟩ := hb.cs
  clear hb
  go_enter Try.func19, Try.ntmps19
  go_wp2_with fail
  refine HZ.out.mono ?_
  rintro e w1 ⟨rfl, rfl⟩
  go_wp2_with fail
  refine (isSegment_any 1 _).mono ?_
  rintro e w1 ⟨rfl, rfl⟩
  go_wp2_with fail
  refine (isCost_any c _).mono ?_
  rintro e w1 ⟨rfl, rfl⟩
  rw [HC.out]
  go_wp2_with fail
  refine (has_any _ _ _ _).mono ?_
  rintro e w1 ⟨rfl, b1⟩
  rw [HH.out]
  have hb2 := Lib.hid (BoxA.below HB.out b1)
  clear e0 e1 e2 e3 e4 e5
  obtain ⟨e0, e1, e2, e3, e4, e5⟩ := Bud.cs hb2.out
  go_wp2_with fail
  go_ret
  exact ⟨rfl, b1⟩
set_option maxHeartbeats 1000000 in
theorem Change_ok1 (b : Nat) (mc mb n0 c0 n1 c1 : Int) (hs : (S.mk mc mb n0 c0 n1 c1).ok) (c : Int) (hc0 : 0 ≤ c) (hc1 : c ≤ 1099511627776) (d : Int) (hd0 : 0 ≤ d) (hd1 : d ≤ 1099511627776) (hfit : n1 ≤ 2097152 ∧ c1 + (d - c) ≤ 2305843009213693952) (hh : hasB n1 c1 c = true) (w : World) (hb : Bud w b ⟨mc, mb, n0, c0, n1, c1⟩) :
    Calls Try.prog 17 #[.pointer (some ⟨b, 0, none⟩), .int .i64 1, .int .i64 c, .int .i64 d] w fun e w' => e = .returned (.int .i64 0) ∧ Bud w' b ⟨mc, mb, n0, c0, n1, c1 + (d - c)⟩ ∧ But b w w' := by
  have HH := Lib.hid hh
  have HF := Lib.hid (decide_eq_true hfit)
  have HZ := Lib.hid (isZero_no b _ hs w hb)
  have HC := Lib.hid (decide_eq_true (And.intro hc0 hc1))
  have HD := Lib.hid (decide_eq_true (And.intro hd0 hd1))
  have HB := Lib.hid hb
  obtain ⟨o1, o2, o3, o4, o5, o6, o7, o8, o9, o10, o11, o12⟩ := hs
  simp only at o1 o2 o3 o4 o5 o6 o7 o8 o9 o10 o11 o12
  have HP := Lib.hid (plus_in n1 c1 0 (d - c) (by omega) (by omega) (by omega) (by omega))
  rw [Int.add_zero] at HP
  have HW := Lib.hid (show IntKind.i64.wrap (d - c) = d - c by rw [IntKind.wrap_i64]; omega)
  clear hfit hh
  obtain ⟨e0, e1, e2, e3, e4, e5⟩ := hb.cs
  clear hb
  go_enter Try.func17, Try.ntmps17
  go_wp2_with fail
  refine HZ.out.mono ?_
  rintro e w1 ⟨rfl, rfl⟩
  go_wp2_with fail
  refine (isSegment_any 1 _).mono ?_
  rintro e w1 ⟨rfl, rfl⟩
  go_wp2_with fail
  refine (isCost_any c _).mono ?_
  rintro e w1 ⟨rfl, rfl⟩
  rw [HC.out]
  go_wp2_with fail
  refine (isCost_any d _).mono ?_
  rintro e w1 ⟨rfl, rfl⟩
  rw [HD.out]
  go_wp2_with fail
  refine (HP.out _).mono ?_
  rintro e w1 ⟨rfl, b1⟩
  go_wp2_with fail
  refine (fits_any _ _ _).mono ?_
  rintro e w2 ⟨rfl, b2⟩
  rw [HF.out]
  have b3 := tr b1 b2
  have hb2 := Lib.hid (BoxA.below HB.out b3)
  clear e0 e1 e2 e3 e4 e5
  obtain ⟨e0, e1, e2, e3, e4, e5⟩ := Bud.cs hb2.out
  go_wp2_with fail
  refine (has_any _ _ _ _).mono ?_
  rintro e w4 ⟨rfl, b4⟩
  rw [HH.out]
  have b5 := tr b3 b4
  have hb2 := Lib.hid (BoxA.below HB.out b5)
  clear e0 e1 e2 e3 e4 e5
  obtain ⟨e0, e1, e2, e3, e4, e5⟩ := Bud.cs hb2.out
  go_wp2_with fail
  go_region_with (go_at_call 34; rw [HW.out]; refine (HP.out _).mono ?_; rintro e w' ⟨rfl, q1⟩; have hb9 : Bud w' b _ := (q1.block b (BoxA.lt hb2.out)).trans hb2.out; have k2 := hb9.cs.2.2.1; have k3 := hb9.cs.2.2.2.1; have k4 := hb9.cs.2.2.2.2.1; have k5 := hb9.cs.2.2.2.2.2; have g2 := BoxA.frozen hb9 2; have g3 := BoxA.frozen hb9 3; have g4 := BoxA.frozen hb9 4; have g5 := BoxA.frozen hb9 5)
  go_wp2_with fail
  go_ret
  exact ⟨rfl, Bud.set1 hb9 _ _, (((But.of (Below.drew b5)).trans (But.of q1)).setCell _).setCell _⟩
set_option maxHeartbeats 1000000 in
theorem Change_none1 (b : Nat) (mc mb n0 c0 n1 c1 : Int) (hs : (S.mk mc mb n0 c0 n1 c1).ok) (c : Int) (hc0 : 0 ≤ c) (hc1 : c ≤ 1099511627776) (d : Int) (hd0 : 0 ≤ d) (hd1 : d ≤ 1099511627776) (hfit : n1 ≤ 2097152 ∧ c1 + (d - c) ≤ 2305843009213693952) (hh : hasB n1 c1 c = false) (w : World) (hb : Bud w b ⟨mc, mb, n0, c0, n1, c1⟩) :
    Calls Try.prog 17 #[.pointer (some ⟨b, 0, none⟩), .int .i64 1, .int .i64 c, .int .i64 d] w fun e w' => e = .returned (.int .i64 9) ∧ Below w.heap.size w w' := by
  have HH := Lib.hid hh
  have HF := Lib.hid (decide_eq_true hfit)
  have HZ := Lib.hid (isZero_no b _ hs w hb)
  have HC := Lib.hid (decide_eq_true (And.intro hc0 hc1))
  have HD := Lib.hid (decide_eq_true (And.intro hd0 hd1))
  have HB := Lib.hid hb
  obtain ⟨o1, o2, o3, o4, o5, o6, o7, o8, o9, o10, o11, o12⟩ := hs
  simp only at o1 o2 o3 o4 o5 o6 o7 o8 o9 o10 o11 o12
  have HP := Lib.hid (plus_in n1 c1 0 (d - c) (by omega) (by omega) (by omega) (by omega))
  rw [Int.add_zero] at HP
  clear hfit hh
  obtain ⟨e0, e1, e2, e3, e4, e5⟩ := hb.cs
  clear hb
  go_enter Try.func17, Try.ntmps17
  go_wp2_with fail
  refine HZ.out.mono ?_
  rintro e w1 ⟨rfl, rfl⟩
  go_wp2_with fail
  refine (isSegment_any 1 _).mono ?_
  rintro e w1 ⟨rfl, rfl⟩
  go_wp2_with fail
  refine (isCost_any c _).mono ?_
  rintro e w1 ⟨rfl, rfl⟩
  rw [HC.out]
  go_wp2_with fail
  refine (isCost_any d _).mono ?_
  rintro e w1 ⟨rfl, rfl⟩
  rw [HD.out]
  go_wp2_with fail
  refine (HP.out _).mono ?_
  rintro e w1 ⟨rfl, b1⟩
  go_wp2_with fail
  refine (fits_any _ _ _).mono ?_
  rintro e w2 ⟨rfl, b2⟩
  rw [HF.out]
  have b3 := tr b1 b2
  have hb2 := Lib.hid (BoxA.below HB.out b3)
  clear e0 e1 e2 e3 e4 e5
  obtain ⟨e0, e1, e2, e3, e4, e5⟩ := Bud.cs hb2.out
  go_wp2_with fail
  refine (has_any _ _ _ _).mono ?_
  rintro e w4 ⟨rfl, b4⟩
  rw [HH.out]
  have b5 := tr b3 b4
  have hb2 := Lib.hid (BoxA.below HB.out b5)
  clear e0 e1 e2 e3 e4 e5
  obtain ⟨e0, e1, e2, e3, e4, e5⟩ := Bud.cs hb2.out
  go_wp2_with fail
  go_ret
  exact ⟨rfl, b5⟩
end Go.Proofs.Ytjlfjgmkbjfbcaa.Bud
