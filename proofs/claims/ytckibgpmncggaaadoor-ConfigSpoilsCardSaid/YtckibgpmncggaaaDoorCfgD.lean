/-
  Configurations (layer 23): resizing, defaults, equality; the law's helpers.
-/
import Derived.Test.YtckibgpmncggaaaDoorCfgB
set_option linter.unusedVariables false
set_option linter.unusedSimpArgs false
namespace Go.Proofs.YtckibgpmncggaaaDoor.Cfg
open Go Go.RowKit Kit
/-- the error of resizing -/
def rzE (a b c n m : Int) : Int := if ck a b c = 0 then ck n m c else ck a b c
theorem BoxA.five {W : World} {q : Nat} {t : TypeId} {a b c d : Int} {y : Bool} (h : BoxA W q t (cells a b c d y)) :
    W.cell? ⟨q, 0, none⟩ = some (.int .i64 a) ∧ W.cell? ⟨q, 1, none⟩ = some (.int .i64 b) ∧ W.cell? ⟨q, 2, none⟩ = some (.int .i64 c) ∧ W.cell? ⟨q, 3, none⟩ = some (.int .u64 d) ∧ W.cell? ⟨q, 4, none⟩ = some (.bool y) ∧ ∀ j, W.frozen? ⟨q, j, none⟩ = false :=
  ⟨h.cell 0, h.cell 1, h.cell 2, h.cell 3, h.cell 4, h.frozen⟩
theorem two_box {W w1 : World} {t1 t2 : TypeId} {v1 v2 : Array Value} (h : Below ((W.alloc (.cells v1 t1)).alloc (.cells v2 t2)).heap.size ((W.alloc (.cells v1 t1)).alloc (.cells v2 t2)) w1) :
    BoxA w1 W.heap.size t1 v1 ∧ BoxA w1 (W.heap.size + 1) t2 v2 ∧ Below W.heap.size W w1 := by
  refine ⟨((BoxA.new W t1 v1).below ((Below.refl _ _).alloc (Nat.le_refl _) _)).below h, ?_, tr ((Below.refl W.heap.size W).alloc (Nat.le_refl _) _) (tr ((Below.refl _ _).alloc (Nat.le_refl _) _) h)⟩
  have := (BoxA.new (W.alloc (.cells v1 t1)) t2 v2).below h
  rwa [show (W.alloc (.cells v1 t1)).heap.size = W.heap.size + 1 from by simp] at this
theorem set_below {B : Nat} {W w1 : World} {p : Addr} (hp : B ≤ p.block) (h : Below B W w1) (v : Value) : Below B W (w1.setCell p v) := h.setCell hp v
set_option maxHeartbeats 1000000 in
theorem rresize_any (a b c d : Int) (y : Bool) (n m : Int) (w : World) :
    Calls Tryd.prog 24 #[conf a b c d y, .int .i64 n, .int .i64 m] w fun e w' => e = .returned (.tuple #[if rzE a b c n m = 0 then conf n m c d y else conf 0 0 0 0 false, .int .i64 (rzE a b c n m)]) ∧ Below w.heap.size w w' := by
  have HC := Lib.hid (fun w => rcheck_any a b c d y w)
  have HD := Lib.hid (fun w => rcheck_any n m c d y w)
  unfold rzE
  by_cases h1 : ck a b c = 0
  · rw [if_pos h1]
    rw [h1] at HC
    by_cases h2 : ck n m c = 0
    · rw [h2] at HD
      rw [if_pos h2, h2]
      clear h1 h2
      go_enter Tryd.func24, Tryd.ntmps24
      go_wp2_with fail
      refine (HC.out _).mono ?_
      rintro e w1 ⟨rfl, b1⟩
      obtain ⟨q0, q1, bw⟩ := two_box b1
      have Q1 := Lib.hid q1
      have Q0 := Lib.hid q0
      obtain ⟨c0, c1, c2, c3, c4, fz⟩ := q0.five
      clear q0 q1 b1
      go_wp2_with fail
      refine (HD.out _).mono ?_
      rintro e w3 ⟨rfl, b3⟩
      have q0 := ((Q0.out.set (j := 0) (by show 0 < 5; omega) (.int .i64 n)).set (j := 1) (by show 1 < 5; omega) (.int .i64 m)).below b3
      have q1 := ((Q1.out.other (b' := w.heap.size) (by omega) 0 (.int .i64 n)).other (b' := w.heap.size) (by omega) 1 (.int .i64 m)).below b3
      have bw3 := Lib.hid (tr (set_below (p := ⟨w.heap.size, 1, none⟩) (Nat.le_refl _) (set_below (p := ⟨w.heap.size, 0, none⟩) (Nat.le_refl _) bw (.int .i64 n)) (.int .i64 m)) b3)
      clear c0 c1 c2 c3 c4 fz b3 bw
      obtain ⟨c0, c1, c2, c3, c4, fz⟩ := BoxA.five (a := n) (b := m) (c := c) (d := d) (y := y) q0
      obtain ⟨d0, d1, d2, d3, d4, fy⟩ := q1.five
      clear q0 q1
      go_wp2_with fail
      refine bodyPost_ret (v := .tuple #[conf n m c d y, .int .i64 0]) (by simp [results, Tryd.results24, go_sem, d0, d1, d2, d3, d4, fy]) rfl ?_
      exact ⟨rfl, set_below (Nat.le_succ _) (set_below (Nat.le_succ _) (set_below (Nat.le_succ _) (set_below (Nat.le_succ _) (set_below (Nat.le_succ _) bw3.out _) _) _) _) _⟩
    · have HR := Lib.hid (show (ck n m c == 0) = false from by rw [beq_eq_false_iff_ne]; exact h2)
      rw [if_neg h2]
      generalize ck n m c = r at *
      have hr := HR.out
      clear h1 h2
      go_enter Tryd.func24, Tryd.ntmps24
      go_wp2_with fail
      refine (HC.out _).mono ?_
      rintro e w1 ⟨rfl, b1⟩
      obtain ⟨q0, q1, bw⟩ := two_box b1
      have Q1 := Lib.hid q1
      have Q0 := Lib.hid q0
      obtain ⟨c0, c1, c2, c3, c4, fz⟩ := q0.five
      clear q0 q1 b1
      go_wp2_with fail
      refine (HD.out _).mono ?_
      rintro e w3 ⟨rfl, b3⟩
      have q1 := ((Q1.out.other (b' := w.heap.size) (by omega) 0 (.int .i64 n)).other (b' := w.heap.size) (by omega) 1 (.int .i64 m)).below b3
      have bw3 := Lib.hid (tr (set_below (p := ⟨w.heap.size, 1, none⟩) (Nat.le_refl _) (set_below (p := ⟨w.heap.size, 0, none⟩) (Nat.le_refl _) bw (.int .i64 n)) (.int .i64 m)) b3)
      clear c0 c1 c2 c3 c4 fz b3 bw
      obtain ⟨d0, d1, d2, d3, d4, fy⟩ := q1.five
      clear q1
      go_wp2_with fail
      refine bodyPost_ret (v := .tuple #[conf 0 0 0 0 false, .int .i64 r]) (by simp [results, Tryd.results24, go_sem, d0, d1, d2, d3, d4, fy]) rfl ?_
      exact ⟨rfl, set_below (Nat.le_succ _) (set_below (Nat.le_succ _) (set_below (Nat.le_succ _) (set_below (Nat.le_succ _) (set_below (Nat.le_succ _) bw3.out _) _) _) _) _⟩
  · have HR := Lib.hid (show (ck a b c == 0) = false from by rw [beq_eq_false_iff_ne]; exact h1)
    rw [if_neg h1, if_neg h1]
    generalize ck a b c = r at *
    have hr := HR.out
    clear h1
    go_enter Tryd.func24, Tryd.ntmps24
    go_wp2_with fail
    refine (HC.out _).mono ?_
    rintro e w1 ⟨rfl, b1⟩
    obtain ⟨-, q1, bw⟩ := two_box b1
    have bw3 := Lib.hid bw
    obtain ⟨d0, d1, d2, d3, d4, fy⟩ := q1.five
    clear q1 b1 bw
    go_wp2_with fail
    refine bodyPost_ret (v := .tuple #[conf 0 0 0 0 false, .int .i64 r]) (by simp [results, Tryd.results24, go_sem, d0, d1, d2, d3, d4, fy]) rfl ?_
    exact ⟨rfl, set_below (Nat.le_succ _) (set_below (Nat.le_succ _) (set_below (Nat.le_succ _) (set_below (Nat.le_succ _) (set_below (Nat.le_succ _) bw3.out _) _) _) _) _⟩
set_option maxHeartbeats 1000000 in
theorem resize_any (a b c d : Int) (y : Bool) (n m : Int) (w : World) :
    Calls Tryd.prog 28 #[conf a b c d y, .int .i64 n, .int .i64 m] w fun e w' => e = .returned (.tuple #[if rzE a b c n m = 0 then conf n m c d y else conf 0 0 0 0 false, .int .i64 (rzE a b c n m)]) ∧ Below w.heap.size w w' := by
  have HC := Lib.hid (fun w => check_any a b c d y w)
  have HD := Lib.hid (fun w => check_any n m c d y w)
  unfold rzE
  by_cases h1 : ck a b c = 0
  · rw [if_pos h1]
    rw [h1] at HC
    by_cases h2 : ck n m c = 0
    · rw [h2] at HD
      rw [if_pos h2, h2]
      clear h1 h2
      go_enter Tryd.func28, Tryd.ntmps28
      go_wp2_with fail
      refine (HC.out _).mono ?_
      rintro e w1 ⟨rfl, b1⟩
      obtain ⟨q0, q1, bw⟩ := two_box b1
      have Q1 := Lib.hid q1
      have Q0 := Lib.hid q0
      obtain ⟨c0, c1, c2, c3, c4, fz⟩ := q0.five
      clear q0 q1 b1
      go_wp2_with fail
      refine (HD.out _).mono ?_
      rintro e w3 ⟨rfl, b3⟩
      have q0 := ((Q0.out.set (j := 0) (by show 0 < 5; omega) (.int .i64 n)).set (j := 1) (by show 1 < 5; omega) (.int .i64 m)).below b3
      have q1 := ((Q1.out.other (b' := w.heap.size) (by omega) 0 (.int .i64 n)).other (b' := w.heap.size) (by omega) 1 (.int .i64 m)).below b3
      have bw3 := Lib.hid (tr (set_below (p := ⟨w.heap.size, 1, none⟩) (Nat.le_refl _) (set_below (p := ⟨w.heap.size, 0, none⟩) (Nat.le_refl _) bw (.int .i64 n)) (.int .i64 m)) b3)
      clear c0 c1 c2 c3 c4 fz b3 bw
      obtain ⟨c0, c1, c2, c3, c4, fz⟩ := BoxA.five (a := n) (b := m) (c := c) (d := d) (y := y) q0
      obtain ⟨d0, d1, d2, d3, d4, fy⟩ := q1.five
      clear q0 q1
      go_wp2_with fail
      refine bodyPost_ret (v := .tuple #[conf n m c d y, .int .i64 0]) (by simp [results, Tryd.results28, go_sem, d0, d1, d2, d3, d4, fy]) rfl ?_
      exact ⟨rfl, set_below (Nat.le_succ _) (set_below (Nat.le_succ _) (set_below (Nat.le_succ _) (set_below (Nat.le_succ _) (set_below (Nat.le_succ _) bw3.out _) _) _) _) _⟩
    · have HR := Lib.hid (show (ck n m c == 0) = false from by rw [beq_eq_false_iff_ne]; exact h2)
      rw [if_neg h2]
      generalize ck n m c = r at *
      have hr := HR.out
      clear h1 h2
      go_enter Tryd.func28, Tryd.ntmps28
      go_wp2_with fail
      refine (HC.out _).mono ?_
      rintro e w1 ⟨rfl, b1⟩
      obtain ⟨q0, q1, bw⟩ := two_box b1
      have Q1 := Lib.hid q1
      have Q0 := Lib.hid q0
      obtain ⟨c0, c1, c2, c3, c4, fz⟩ := q0.five
      clear q0 q1 b1
      go_wp2_with fail
      refine (HD.out _).mono ?_
      rintro e w3 ⟨rfl, b3⟩
      have q1 := ((Q1.out.other (b' := w.heap.size) (by omega) 0 (.int .i64 n)).other (b' := w.heap.size) (by omega) 1 (.int .i64 m)).below b3
      have bw3 := Lib.hid (tr (set_below (p := ⟨w.heap.size, 1, none⟩) (Nat.le_refl _) (set_below (p := ⟨w.heap.size, 0, none⟩) (Nat.le_refl _) bw (.int .i64 n)) (.int .i64 m)) b3)
      clear c0 c1 c2 c3 c4 fz b3 bw
      obtain ⟨d0, d1, d2, d3, d4, fy⟩ := q1.five
      clear q1
      go_wp2_with fail
      refine bodyPost_ret (v := .tuple #[conf 0 0 0 0 false, .int .i64 r]) (by simp [results, Tryd.results28, go_sem, d0, d1, d2, d3, d4, fy]) rfl ?_
      exact ⟨rfl, bw3.out⟩
  · have HR := Lib.hid (show (ck a b c == 0) = false from by rw [beq_eq_false_iff_ne]; exact h1)
    rw [if_neg h1, if_neg h1]
    generalize ck a b c = r at *
    have hr := HR.out
    clear h1
    go_enter Tryd.func28, Tryd.ntmps28
    go_wp2_with fail
    refine (HC.out _).mono ?_
    rintro e w1 ⟨rfl, b1⟩
    obtain ⟨-, q1, bw⟩ := two_box b1
    have bw3 := Lib.hid bw
    obtain ⟨d0, d1, d2, d3, d4, fy⟩ := q1.five
    clear q1 b1 bw
    go_wp2_with fail
    refine bodyPost_ret (v := .tuple #[conf 0 0 0 0 false, .int .i64 r]) (by simp [results, Tryd.results28, go_sem, d0, d1, d2, d3, d4, fy]) rfl ?_
    exact ⟨rfl, bw3.out⟩
end Go.Proofs.YtckibgpmncggaaaDoor.Cfg
