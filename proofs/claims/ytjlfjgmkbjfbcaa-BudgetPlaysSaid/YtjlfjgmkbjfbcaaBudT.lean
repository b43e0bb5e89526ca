/-
  Walks over package budget (layer 17): Set, and what is read.
-/
import Derived.Test.YtjlfjgmkbjfbcaaBudV
import Derived.Deep.RegionHeld3
namespace Go.Proofs.Ytjlfjgmkbjfbcaa.Bud
open Go.RowKit Kit

theorem Set_bad (b : Nat) (s : S) (hs : s.ok) (x y : Int) (hf : okLim x y = false) (w : World) (hb : Bud w b s) :
    Calls Try.prog 20 #[.pointer (some ⟨b, 0, none⟩), .int .i64 x, .int .i64 y] w fun e w' => e = .returned (.int .i64 2) ∧ w = w' := by
  have HZ := Lib.hid (isZero_no b s hs w hb)
  clear hb hs
  go_enter Try.func20, Try.ntmps20
  go_wp2_with fail
  refine HZ.out.mono ?_
  rintro e w1 ⟨rfl, rfl⟩
  go_wp2_with fail
  refine (allowed_any x y _).mono ?_
  rintro e w1 ⟨rfl, rfl⟩
  rw [hf]
  go_wp2_with fail
  go_ret
  exact ⟨rfl, rfl⟩
theorem Bud.setm {W : World} {b : Nat} {mc mb n0 c0 n1 c1 : Int} (h : Bud W b ⟨mc, mb, n0, c0, n1, c1⟩) (x y : Int) : Bud ((W.setCell ⟨b, 0, none⟩ (.int .i64 x)).setCell ⟨b, 1, none⟩ (.int .i64 y)) b ⟨x, y, n0, c0, n1, c1⟩ :=
  BoxA.set (BoxA.set h (j := 0) (by simp [S.cells]) (.int .i64 x)) (j := 1) (by simp [S.cells]) (.int .i64 y)
theorem Set_ok (b : Nat) (mc mb n0 c0 n1 c1 : Int) (hs : (S.mk mc mb n0 c0 n1 c1).ok) (x y : Int) (hf : okLim x y = true) (w : World) (hb : Bud w b ⟨mc, mb, n0, c0, n1, c1⟩) :
    Calls Try.prog 20 #[.pointer (some ⟨b, 0, none⟩), .int .i64 x, .int .i64 y] w fun e w' => e = .returned (.int .i64 0) ∧ Bud w' b ⟨x, y, n0, c0, n1, c1⟩ ∧ But b w w' := by
  have HZ := Lib.hid (isZero_no b _ hs w hb)
  have HB := Lib.hid hb
  obtain ⟨e0, e1, e2, e3, e4, e5⟩ := hb.cs
  have f0 := BoxA.frozen hb 0
  have f1 := BoxA.frozen hb 1
  clear hb hs
  go_enter Try.func20, Try.ntmps20
  go_wp2_with fail
  refine HZ.out.mono ?_
  rintro e w1 ⟨rfl, rfl⟩
  go_wp2_with fail
  refine (allowed_any x y _).mono ?_
  rintro e w1 ⟨rfl, rfl⟩
  rw [hf]
  go_wp2_with fail
  go_ret
  exact ⟨rfl, HB.out.setm x y, ((But.refl b w).setCell _).setCell _⟩
theorem Limits_any (b : Nat) (s : S) (hs : s.ok) (w : World) (hb : Bud w b s) :
    Calls Try.prog 18 #[.pointer (some ⟨b, 0, none⟩)] w fun e w' => e = .returned (.tuple #[.int .i64 s.mc, .int .i64 s.mb]) ∧ Below w.heap.size w w' := by
  have HZ := Lib.hid (isZero_no b _ hs w hb)
  obtain ⟨e0, e1, e2, e3, e4, e5⟩ := hb.cs
  clear hb hs
  generalize s.mc = mc at *
  generalize s.mb = mb at *
  go_enter Try.func18, Try.ntmps18
  go_wp2_with fail
  refine HZ.out.mono ?_
  rintro e w1 ⟨rfl, rfl⟩
  go_wp2_with fail
  go_quiet (fail)
  go_wp2_with fail
  go_ret2
  exact ⟨rfl, below_drewN (Below.refl _ _) _⟩
theorem Used_out (b : Nat) (s : S) (hs : s.ok) (g : Int) (hg : ¬ (0 ≤ g ∧ g < 2)) (w : World) (hb : Bud w b s) :
    Calls Try.prog 28 #[.pointer (some ⟨b, 0, none⟩), .int .i64 g] w fun e w' => e = .returned (.tuple #[.int .i64 0, .int .i64 0]) ∧ Below w.heap.size w w' := by
  have HZ := Lib.hid (isZero_no b _ hs w hb)
  have HG := Lib.hid (decide_eq_false hg)
  clear hb hs hg
  go_enter Try.func28, Try.ntmps28
  go_wp2_with fail
  refine HZ.out.mono ?_
  rintro e w1 ⟨rfl, rfl⟩
  go_wp2_with fail
  refine (isSegment_any g _).mono ?_
  rintro e w1 ⟨rfl, rfl⟩
  rw [HG.out]
  go_wp2_with fail
  go_ret2
  exact ⟨rfl, Below.refl _ _⟩
theorem Used_0 (b : Nat) (s : S) (hs : s.ok) (w : World) (hb : Bud w b s) :
    Calls Try.prog 28 #[.pointer (some ⟨b, 0, none⟩), .int .i64 0] w fun e w' => e = .returned (.tuple #[.int .i64 s.n0, .int .i64 s.c0]) ∧ Below w.heap.size w w' := by
  have HZ := Lib.hid (isZero_no b _ hs w hb)
  obtain ⟨e0, e1, e2, e3, e4, e5⟩ := hb.cs
  clear hb hs
  generalize s.n0 = n0 at *
  generalize s.c0 = c0 at *
  go_enter Try.func28, Try.ntmps28
  go_wp2_with fail
  refine HZ.out.mono ?_
  rintro e w1 ⟨rfl, rfl⟩
  go_wp2_with fail
  refine (isSegment_any 0 _).mono ?_
  rintro e w1 ⟨rfl, rfl⟩
  go_wp2_with fail
  go_quiet (fail)
  go_wp2_with fail
  go_ret2
  exact ⟨rfl, below_drewN (Below.refl _ _) _⟩
theorem Used_1 (b : Nat) (s : S) (hs : s.ok) (w : World) (hb : Bud w b s) :
    Calls Try.prog 28 #[.pointer (some ⟨b, 0, none⟩), .int .i64 1] w fun e w' => e = .returned (.tuple #[.int .i64 s.n1, .int .i64 s.c1]) ∧ Below w.heap.size w w' := by
  have HZ := Lib.hid (isZero_no b _ hs w hb)
  obtain ⟨e0, e1, e2, e3, e4, e5⟩ := hb.cs
  clear hb hs
  generalize s.n1 = n1 at *
  generalize s.c1 = c1 at *
  go_enter Try.func28, Try.ntmps28
  go_wp2_with fail
  refine HZ.out.mono ?_
  rintro e w1 ⟨rfl, rfl⟩
  go_wp2_with fail
  refine (isSegment_any 1 _).mono ?_
  rintro e w1 ⟨rfl, rfl⟩
  go_wp2_with fail
  go_quiet (fail)
  go_wp2_with fail
  go_ret2
  exact ⟨rfl, below_drewN (Below.refl _ _) _⟩
theorem Part_bad (b : Nat) (s : S) (hs : s.ok) (h : Int) (hh : ¬ (0 ≤ h ∧ h ≤ 100)) (w : World) (hb : Bud w b s) :
    Calls Try.prog 14 #[.pointer (some ⟨b, 0, none⟩), .int .i64 h] w fun e w' => e = .returned (.tuple #[.int .i64 0, .int .i64 2]) ∧ w = w' := by
  have HZ := Lib.hid (isZero_no b _ hs w hb)
  clear hb hs
  by_cases h0 : h < 0
  · go_enter Try.func14, Try.ntmps14
    go_wp2_with fail
    refine HZ.out.mono ?_
    rintro e w1 ⟨rfl, rfl⟩
    go_wp2_with fail
    go_ret2
    exact ⟨rfl, rfl⟩
  · have h1 : 100 < h := by omega
    go_enter Try.func14, Try.ntmps14
    go_wp2_with fail
    refine HZ.out.mono ?_
    rintro e w1 ⟨rfl, rfl⟩
    go_wp2_with fail
    go_ret2
    exact ⟨rfl, rfl⟩
theorem Part_ok (b : Nat) (s : S) (hs : s.ok) (h : Int) (h0 : 0 ≤ h) (h1 : h ≤ 100) (w : World) (hb : Bud w b s) :
    Calls Try.prog 14 #[.pointer (some ⟨b, 0, none⟩), .int .i64 h] w fun e w' => e = .returned (.tuple #[.int .i64 (s.mb * h / 100), .int .i64 0]) ∧ w = w' := by
  have HZ := Lib.hid (isZero_no b _ hs w hb)
  obtain ⟨e0, e1, e2, e3, e4, e5⟩ := hb.cs
  have m0 : 1 ≤ s.mb := hs.2.2.1
  have m1 : s.mb ≤ 1099511627776 := hs.2.2.2.1
  clear hb hs
  generalize s.mb = mb at *
  have q0 : 0 ≤ mb * h := Int.mul_nonneg (by omega) h0
  have q1 : mb * h ≤ 1099511627776 * 100 := Int.mul_le_mul m1 h1 h0 (by omega)
  go_enter Try.func14, Try.ntmps14
  go_wp2_with fail
  refine HZ.out.mono ?_
  rintro e w1 ⟨rfl, rfl⟩
  go_wp2_with fail
  go_ret2
  exact ⟨rfl, rfl⟩
theorem Copy_any (b : Nat) (s : S) (hs : s.ok) (w : World) (hb : Bud w b s) :
    Calls Try.prog 25 #[.pointer (some ⟨b, 0, none⟩)] w fun e w' => e = .returned (.pointer (some ⟨w.heap.size, 0, none⟩)) ∧ Bud w' w.heap.size s ∧ Below w.heap.size w w' := by
  have HZ := Lib.hid (isZero_no b _ hs w hb)
  obtain ⟨e0, e1, e2, e3, e4, e5⟩ := hb.cs
  clear hb hs
  go_enter Try.func25, Try.ntmps25
  go_wp2_with fail
  refine HZ.out.mono ?_
  rintro e w1 ⟨rfl, rfl⟩
  go_wp2_with fail
  go_ret
  exact ⟨rfl, (MapKept.heap_alloc w _).1, by go_grown⟩
theorem tkeep {w W W' : World} {b : Nat} {v2 v3 v4 v5 : Value} (hb : Below W.heap.size W W') (h : W.cell? ⟨b, 2, none⟩ = some v2 ∧ W.cell? ⟨b, 3, none⟩ = some v3 ∧ W.cell? ⟨b, 4, none⟩ = some v4 ∧ W.cell? ⟨b, 5, none⟩ = some v5 ∧ b < W.heap.size ∧ Below w.heap.size w W) :
    W'.cell? ⟨b, 2, none⟩ = some v2 ∧ W'.cell? ⟨b, 3, none⟩ = some v3 ∧ W'.cell? ⟨b, 4, none⟩ = some v4 ∧ W'.cell? ⟨b, 5, none⟩ = some v5 ∧ b < W'.heap.size ∧ Below w.heap.size w W' := by
  obtain ⟨h2, h3, h4, h5, hl, hB⟩ := h
  exact ⟨cell_of hb hl h2, cell_of hb hl h3, cell_of hb hl h4, cell_of hb hl h5, Nat.lt_of_lt_of_le hl hb.size, tr hB hb⟩
theorem tgrow {w W : World} {b : Nat} {v2 v3 v4 v5 : Value} (o : Obj) (h : W.cell? ⟨b, 2, none⟩ = some v2 ∧ W.cell? ⟨b, 3, none⟩ = some v3 ∧ W.cell? ⟨b, 4, none⟩ = some v4 ∧ W.cell? ⟨b, 5, none⟩ = some v5 ∧ b < W.heap.size ∧ Below w.heap.size w W) :
    (W.alloc o).cell? ⟨b, 2, none⟩ = some v2 ∧ (W.alloc o).cell? ⟨b, 3, none⟩ = some v3 ∧ (W.alloc o).cell? ⟨b, 4, none⟩ = some v4 ∧ (W.alloc o).cell? ⟨b, 5, none⟩ = some v5 ∧ b < (W.alloc o).heap.size ∧ Below w.heap.size w (W.alloc o) := tkeep (by go_grown) h
/-- a store into a block that was new in x0 -/
theorem tset {w x0 W : World} {b : Nat} {v2 v3 v4 v5 x y : Value} (h0 : x0.cell? ⟨b, 2, none⟩ = some v2 ∧ x0.cell? ⟨b, 3, none⟩ = some v3 ∧ x0.cell? ⟨b, 4, none⟩ = some v4 ∧ x0.cell? ⟨b, 5, none⟩ = some v5 ∧ b < x0.heap.size ∧ Below w.heap.size w x0)
    (h : W.cell? ⟨b, 2, none⟩ = some v2 ∧ W.cell? ⟨b, 3, none⟩ = some v3 ∧ W.cell? ⟨b, 4, none⟩ = some v4 ∧ W.cell? ⟨b, 5, none⟩ = some v5 ∧ b < W.heap.size ∧ Below w.heap.size w W) :
    ((W.setCell ⟨x0.heap.size, 0, none⟩ x).setCell ⟨x0.heap.size, 1, none⟩ y).cell? ⟨b, 2, none⟩ = some v2 ∧ ((W.setCell ⟨x0.heap.size, 0, none⟩ x).setCell ⟨x0.heap.size, 1, none⟩ y).cell? ⟨b, 3, none⟩ = some v3 ∧ ((W.setCell ⟨x0.heap.size, 0, none⟩ x).setCell ⟨x0.heap.size, 1, none⟩ y).cell? ⟨b, 4, none⟩ = some v4 ∧ ((W.setCell ⟨x0.heap.size, 0, none⟩ x).setCell ⟨x0.heap.size, 1, none⟩ y).cell? ⟨b, 5, none⟩ = some v5 ∧ b < ((W.setCell ⟨x0.heap.size, 0, none⟩ x).setCell ⟨x0.heap.size, 1, none⟩ y).heap.size ∧ Below w.heap.size w ((W.setCell ⟨x0.heap.size, 0, none⟩ x).setCell ⟨x0.heap.size, 1, none⟩ y) := by
  obtain ⟨_, _, _, _, l0, B0⟩ := h0
  obtain ⟨h2, h3, h4, h5, hl, hB⟩ := h
  have hs := B0.size
  have k : ∀ o, ((W.setCell ⟨x0.heap.size, 0, none⟩ x).setCell ⟨x0.heap.size, 1, none⟩ y).cell? ⟨b, o, none⟩ = W.cell? ⟨b, o, none⟩ := fun o => by
    simp only [World.cell?]
    rw [Below.heap_setCell _ _ _ b (by show b ≠ x0.heap.size; omega), Below.heap_setCell _ _ _ b (by show b ≠ x0.heap.size; omega)]
  refine ⟨(k 2).trans h2, (k 3).trans h3, (k 4).trans h4, (k 5).trans h5, ?_, (hB.setCell (p := ⟨x0.heap.size, 0, none⟩) hs _).setCell (p := ⟨x0.heap.size, 1, none⟩) hs _⟩
  simp
  exact hl
set_option maxHeartbeats 1000000 in
theorem Total_any (b : Nat) (s : S) (hs : s.ok) (w : World) (hb : Bud w b s) :
    Calls Try.prog 27 #[.pointer (some ⟨b, 0, none⟩)] w fun e w' => e = .returned (.tuple #[.int .i64 (s.n0 + s.n1), .int .i64 (s.c0 + s.c1)]) ∧ Below w.heap.size w w' := by
  have HZ := Lib.hid (isZero_no b _ hs w hb)
  obtain ⟨e0, e1, e2, e3, e4, e5⟩ := hb.cs
  have hlt := BoxA.lt hb
  obtain ⟨o1, o2, o3, o4, o5, o6, o7, o8, o9, o10, o11, o12⟩ := hs
  have HP := Lib.hid (plus_in s.n0 s.c0 s.n1 s.c1 (by omega) (by omega) (by omega) (by omega))
  clear hb
  generalize s.n0 = n0 at *
  generalize s.c0 = c0 at *
  generalize s.n1 = n1 at *
  generalize s.c1 = c1 at *
  go_enter Try.func27, Try.ntmps27
  go_wp2_with fail
  refine HZ.out.mono ?_
  rintro e w1 ⟨rfl, rfl⟩
  go_wp2_with fail
  go_region_held3 (fun w' => w'.cell? ⟨b, 2, none⟩ = some (.int .i64 n0) ∧ w'.cell? ⟨b, 3, none⟩ = some (.int .i64 c0) ∧ w'.cell? ⟨b, 4, none⟩ = some (.int .i64 n1) ∧ w'.cell? ⟨b, 5, none⟩ = some (.int .i64 c1) ∧ b < w'.heap.size ∧ Below w.heap.size w w')
    (first
      | (exact tkeep q1 (by assumption))
      | (exact tkeep (Below.drew (Below.refl _ _)) ⟨e2, e3, e4, e5, hlt, Below.refl _ _⟩)
      | (exact tgrow _ (by assumption))
      | (exact tgrow _ (tkeep q1 ⟨e2, e3, e4, e5, hlt, Below.drew (Below.refl _ _)⟩))
      | (exact tset (x0 := w) ⟨e2, e3, e4, e5, hlt, Below.refl _ _⟩ (by assumption))
      | (exact tset (x0 := w) ⟨e2, e3, e4, e5, hlt, Below.refl _ _⟩ (tkeep q1 (tgrow (W := w.drew) _ ⟨e2, e3, e4, e5, hlt, Below.drew (Below.refl _ _)⟩)))
      | (trace_state; fail))
    (first
      | (go_at_call 34; refine (HP.out _).mono ?_; rintro e w' ⟨rfl, q1⟩; try (have hx9 : Bx w' w.heap.size 45 (.int .i64 0) (.int .i64 0) := (Bx.new w.drew _ _ _).below q1; have y0 := hx9.c0; have y1 := hx9.c1; have z0 := hx9.fr 0; have z1 := hx9.fr 1)))
  · have hB : Below w.heap.size w (w'.alloc (.cells #[.int .i64 (n0 + n1), .int .i64 (c0 + c1)] 45)) := tr (tr (Below.drew (Below.refl _ _)) q1) (by go_grown)
    have hx := Bx.new w' 45 (.int .i64 (n0 + n1)) (.int .i64 (c0 + c1))
    generalize w'.alloc (.cells #[.int .i64 (n0 + n1), .int .i64 (c0 + c1)] 45) = w9 at hB hx ⊢
    have x0 := hx.c0
    have x1 := hx.c1
    go_wp2_with fail
    go_quiet (fail)
    go_wp2_with fail
    go_ret2
    exact ⟨rfl, below_drewN hB _⟩
  · have hb9 : Below w.heap.size w w' := tr (show Below w.heap.size w (w.drew.alloc (.cells #[.int .i64 0, .int .i64 0] 45)) from tr (Below.drew (Below.refl _ _)) (by go_grown)) q1
    have hB : Below w.heap.size w ((w'.setCell ⟨w.heap.size, 0, none⟩ (.int .i64 (n0 + n1))).setCell ⟨w.heap.size, 1, none⟩ (.int .i64 (c0 + c1))) := (hb9.setCell (p := ⟨w.heap.size, 0, none⟩) (Nat.le_refl _) _).setCell (p := ⟨w.heap.size, 1, none⟩) (Nat.le_refl _) _
    have hx := hx9.set (.int .i64 (n0 + n1)) (.int .i64 (c0 + c1))
    generalize (w'.setCell ⟨w.heap.size, 0, none⟩ (.int .i64 (n0 + n1))).setCell ⟨w.heap.size, 1, none⟩ (.int .i64 (c0 + c1)) = w9 at hB hx ⊢
    have x0 := hx.c0
    have x1 := hx.c1
    go_wp2_with fail
    go_quiet (fail)
    go_wp2_with fail
    go_ret2
    exact ⟨rfl, below_drewN hB _⟩
/-- by how much a is over b -/
def overI (a b : Int) : Int := if b < a then a - b else 0
set_option maxHeartbeats 2000000 in
theorem Over_any (b : Nat) (s : S) (hs : s.ok) (w : World) (hb : Bud w b s) :
    Calls Try.prog 38 #[.pointer (some ⟨b, 0, none⟩)] w fun e w' => e = .returned (.tuple #[.int .i64 (overI (s.n0 + s.n1) s.mc), .int .i64 (overI (s.c0 + s.c1) s.mb)]) ∧ Below w.heap.size w w' := by
  have HZ := Lib.hid (isZero_no b _ hs w hb)
  have HT := Lib.hid (Total_any b s hs w hb)
  have HB := Lib.hid hb
  obtain ⟨o1, o2, o3, o4, o5, o6, o7, o8, o9, o10, o11, o12⟩ := hs
  clear hb
  unfold overI
  by_cases h0 : s.mc < s.n0 + s.n1
  · by_cases h1 : s.mb < s.c0 + s.c1
    · rw [if_pos h0, if_pos h1]
      go_enter Try.func38, Try.ntmps38
      go_wp2_with fail
      refine HZ.out.mono ?_
      rintro e w1 ⟨rfl, rfl⟩
      go_wp2_with fail
      refine HT.out.mono ?_
      rintro e w1 ⟨rfl, b1⟩
      obtain ⟨e0, e1, e2, e3, e4, e5⟩ := Bud.cs (BoxA.below HB.out b1)
      clear e2 e3 e4 e5
      have HW : Hid (wrap64 (s.n0 + s.n1 - s.mc) = s.n0 + s.n1 - s.mc) := Lib.hid (by unfold wrap64; omega)
      have HV : Hid (wrap64 (s.c0 + s.c1 - s.mb) = s.c0 + s.c1 - s.mb) := Lib.hid (by unfold wrap64; omega)
      have q0 : 0 < wrap64 (s.n0 + s.n1 - s.mc) := by unfold wrap64; omega
      have q1 : 0 < wrap64 (s.c0 + s.c1 - s.mb) := by unfold wrap64; omega
      clear h0 h1
      generalize hn : s.n0 + s.n1 = n at *
      generalize hc : s.c0 + s.c1 = c at *
      generalize hmc : s.mc = mc at *
      generalize hmb : s.mb = mb at *
      have E1 := Lib.hid hn
      have E2 := Lib.hid hc
      have E3 := Lib.hid hmc
      have E4 := Lib.hid hmb
      clear hn hc hmc hmb
      go_wp2_with fail
      go_quiet (fail)
      go_wp2_with fail
      go_ret2
      refine ⟨?_, below_drewN b1 _⟩
      first | rfl | (show Ending.returned (.tuple #[.int .i64 _, .int .i64 _]) = _; simp only [HW.out, HV.out]; first | (rw [E1.out, E2.out, E3.out, E4.out]) | (rw [E1.out, E3.out]) | (rw [E2.out, E4.out]))
    · rw [if_pos h0, if_neg h1]
      go_enter Try.func38, Try.ntmps38
      go_wp2_with fail
      refine HZ.out.mono ?_
      rintro e w1 ⟨rfl, rfl⟩
      go_wp2_with fail
      refine HT.out.mono ?_
      rintro e w1 ⟨rfl, b1⟩
      obtain ⟨e0, e1, e2, e3, e4, e5⟩ := Bud.cs (BoxA.below HB.out b1)
      clear e2 e3 e4 e5
      have HW : Hid (wrap64 (s.n0 + s.n1 - s.mc) = s.n0 + s.n1 - s.mc) := Lib.hid (by unfold wrap64; omega)
      have HV : Hid (wrap64 (s.c0 + s.c1 - s.mb) = s.c0 + s.c1 - s.mb) := Lib.hid (by unfold wrap64; omega)
      have q0 : 0 < wrap64 (s.n0 + s.n1 - s.mc) := by unfold wrap64; omega
      have q1 : wrap64 (s.c0 + s.c1 - s.mb) ≤ 0 := by unfold wrap64; omega
      clear h0 h1
      generalize hn : s.n0 + s.n1 = n at *
      generalize hc : s.c0 + s.c1 = c at *
      generalize hmc : s.mc = mc at *
      generalize hmb : s.mb = mb at *
      have E1 := Lib.hid hn
      have E2 := Lib.hid hc
      have E3 := Lib.hid hmc
      have E4 := Lib.hid hmb
      clear hn hc hmc hmb
      go_wp2_with fail
      go_quiet (fail)
      go_wp2_with fail
      go_ret2
      refine ⟨?_, below_drewN b1 _⟩
      first | rfl | (show Ending.returned (.tuple #[.int .i64 _, .int .i64 _]) = _; simp only [HW.out]; first | (rw [E1.out, E2.out, E3.out, E4.out]) | (rw [E1.out, E3.out]) | (rw [E2.out, E4.out]))
  · by_cases h1 : s.mb < s.c0 + s.c1
    · rw [if_neg h0, if_pos h1]
      go_enter Try.func38, Try.ntmps38
      go_wp2_with fail
      refine HZ.out.mono ?_
      rintro e w1 ⟨rfl, rfl⟩
      go_wp2_with fail
      refine HT.out.mono ?_
      rintro e w1 ⟨rfl, b1⟩
      obtain ⟨e0, e1, e2, e3, e4, e5⟩ := Bud.cs (BoxA.below HB.out b1)
      clear e2 e3 e4 e5
      have HW : Hid (wrap64 (s.n0 + s.n1 - s.mc) = s.n0 + s.n1 - s.mc) := Lib.hid (by unfold wrap64; omega)
      have HV : Hid (wrap64 (s.c0 + s.c1 - s.mb) = s.c0 + s.c1 - s.mb) := Lib.hid (by unfold wrap64; omega)
      have q0 : wrap64 (s.n0 + s.n1 - s.mc) ≤ 0 := by unfold wrap64; omega
      have q1 : 0 < wrap64 (s.c0 + s.c1 - s.mb) := by unfold wrap64; omega
      clear h0 h1
      generalize hn : s.n0 + s.n1 = n at *
      generalize hc : s.c0 + s.c1 = c at *
      generalize hmc : s.mc = mc at *
      generalize hmb : s.mb = mb at *
      have E1 := Lib.hid hn
      have E2 := Lib.hid hc
      have E3 := Lib.hid hmc
      have E4 := Lib.hid hmb
      clear hn hc hmc hmb
      go_wp2_with fail
      go_quiet (fail)
      go_wp2_with fail
      go_ret2
      refine ⟨?_, below_drewN b1 _⟩
      first | rfl | (show Ending.returned (.tuple #[.int .i64 _, .int .i64 _]) = _; simp only [HV.out]; first | (rw [E1.out, E2.out, E3.out, E4.out]) | (rw [E1.out, E3.out]) | (rw [E2.out, E4.out]))
    · rw [if_neg h0, if_neg h1]
      go_enter Try.func38, Try.ntmps38
      go_wp2_with fail
      refine HZ.out.mono ?_
      rintro e w1 ⟨rfl, rfl⟩
      go_wp2_with fail
      refine HT.out.mono ?_
      rintro e w1 ⟨rfl, b1⟩
      obtain ⟨e0, e1, e2, e3, e4, e5⟩ := Bud.cs (BoxA.below HB.out b1)
      clear e2 e3 e4 e5
      have HW : Hid (wrap64 (s.n0 + s.n1 - s.mc) = s.n0 + s.n1 - s.mc) := Lib.hid (by unfold wrap64; omega)
      have HV : Hid (wrap64 (s.c0 + s.c1 - s.mb) = s.c0 + s.c1 - s.mb) := Lib.hid (by unfold wrap64; omega)
      have q0 : wrap64 (s.n0 + s.n1 - s.mc) ≤ 0 := by unfold wrap64; omega
      have q1 : wrap64 (s.c0 + s.c1 - s.mb) ≤ 0 := by unfold wrap64; omega
      clear h0 h1
      generalize hn : s.n0 + s.n1 = n at *
      generalize hc : s.c0 + s.c1 = c at *
      generalize hmc : s.mc = mc at *
      generalize hmb : s.mb = mb at *
      have E1 := Lib.hid hn
      have E2 := Lib.hid hc
      have E3 := Lib.hid hmc
      have E4 := Lib.hid hmb
      clear hn hc hmc hmb
      go_wp2_with fail
      go_quiet (fail)
      go_wp2_with fail
      go_ret2
      refine ⟨?_, below_drewN b1 _⟩
      first | rfl | (show Ending.returned (.tuple #[.int .i64 _, .int .i64 _]) = _; simp only []; first | (rw [E1.out, E2.out, E3.out, E4.out]) | (rw [E1.out, E3.out]) | (rw [E2.out, E4.out]))
end Go.Proofs.Ytjlfjgmkbjfbcaa.Bud
