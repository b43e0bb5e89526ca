/-
  Walks over layer 33: the places of a key.
-/
import Derived.Test.YtohldfhelppehaaSkV
set_option linter.unusedVariables false
set_option linter.unusedSimpArgs false
namespace Go.Proofs.Ytohldfhelppehaa.Skt
open Go.RowKit Kit Hash Blo
/-- block p is a sketch -/
def Sk (w : World) (p : Nat) (m t sd : Int) (n q1 c1 q2 c2 q3 c3 q4 c4 : Nat) : Prop := w.heap[p]? = some (fO n m t sd n q1 c1 q2 c2 q3 c3 q4 c4)
theorem Sk.lt {w : World} {p : Nat} {m t sd : Int} {n q1 c1 q2 c2 q3 c3 q4 c4 : Nat} (h : Sk w p m t sd n q1 c1 q2 c2 q3 c3 q4 c4) : p < w.heap.size := (Array.getElem?_eq_some_iff.1 h).1
theorem Sk.below {w v : World} {p : Nat} {m t sd : Int} {n q1 c1 q2 c2 q3 c3 q4 c4 : Nat} (h : Sk w p m t sd n q1 c1 q2 c2 q3 c3 q4 c4) (hb : Below w.heap.size w v) : Sk v p m t sd n q1 c1 q2 c2 q3 c3 q4 c4 := (hb.block p h.lt).trans h
theorem Sk.but {w v : World} {p x : Nat} {m t sd : Int} {n q1 c1 q2 c2 q3 c3 q4 c4 : Nat} (h : Sk w p m t sd n q1 c1 q2 c2 q3 c3 q4 c4) (hb : But x w v) (hne : p ≠ x) : Sk v p m t sd n q1 c1 q2 c2 q3 c3 q4 c4 := (hb.block p h.lt hne).trans h
theorem Sk.c0 {w : World} {p : Nat} {m t sd : Int} {n q1 c1 q2 c2 q3 c3 q4 c4 : Nat} (h : Sk w p m t sd n q1 c1 q2 c2 q3 c3 q4 c4) : w.cell? ⟨p, 0, none⟩ = some (.int .i64 n) := by unfold World.cell?; rw [show w.heap[p]? = _ from h]; rfl
theorem Sk.c1 {w : World} {p : Nat} {m t sd : Int} {n q1 c1 q2 c2 q3 c3 q4 c4 : Nat} (h : Sk w p m t sd n q1 c1 q2 c2 q3 c3 q4 c4) : w.cell? ⟨p, 1, none⟩ = some (.int .i64 m) := by unfold World.cell?; rw [show w.heap[p]? = _ from h]; rfl
theorem Sk.c2 {w : World} {p : Nat} {m t sd : Int} {n q1 c1 q2 c2 q3 c3 q4 c4 : Nat} (h : Sk w p m t sd n q1 c1 q2 c2 q3 c3 q4 c4) : w.cell? ⟨p, 2, none⟩ = some (.int .i64 t) := by unfold World.cell?; rw [show w.heap[p]? = _ from h]; rfl
theorem Sk.c3 {w : World} {p : Nat} {m t sd : Int} {n q1 c1 q2 c2 q3 c3 q4 c4 : Nat} (h : Sk w p m t sd n q1 c1 q2 c2 q3 c3 q4 c4) : w.cell? ⟨p, 3, none⟩ = some (.int .u64 sd) := by unfold World.cell?; rw [show w.heap[p]? = _ from h]; rfl
theorem Sk.c4 {w : World} {p : Nat} {m t sd : Int} {n q1 c1 q2 c2 q3 c3 q4 c4 : Nat} (h : Sk w p m t sd n q1 c1 q2 c2 q3 c3 q4 c4) : w.cell? ⟨p, 4, none⟩ = some (.bool false) := by unfold World.cell?; rw [show w.heap[p]? = _ from h]; rfl
/-- the places, from the sum -/
def pv (x n : Nat) : Value := .agg #[.int .i64 ((x % n : Nat) : Int), .int .i64 ((x / 65536 % n : Nat) : Int), .int .i64 ((x / 65536 / 65536 % n : Nat) : Int), .int .i64 ((x / 65536 / 65536 / 65536 % n : Nat) : Int)]
theorem pv_one (n : Nat) (n1 : 16 ≤ n) (n2 : n ≤ 65536) (y : Nat) : wrap64 ((y : Int) % (n : Int)) = ((y % n : Nat) : Int) := by
  have h1 := Int.emod_nonneg (y : Int) (show (n : Int) ≠ 0 by omega)
  have h2 := Int.emod_lt_of_pos (y : Int) (show 0 < (n : Int) by omega)
  rw [IntWalk.wrap64_in _ (by omega)]; rfl
theorem pv_eq (x n : Nat) (n1 : 16 ≤ n) (n2 : n ≤ 65536) : Value.agg #[.int .i64 (wrap64 ((x : Int) % n)), .int .i64 (wrap64 ((x : Int) / 65536 % n)), .int .i64 (wrap64 ((x : Int) / 65536 / 65536 % n)), .int .i64 (wrap64 ((x : Int) / 65536 / 65536 / 65536 % n))] = pv x n := by
  have h1 : (x : Int) / 65536 = ((x / 65536 : Nat) : Int) := rfl
  have h2 : ((x / 65536 : Nat) : Int) / 65536 = ((x / 65536 / 65536 : Nat) : Int) := rfl
  have h3 : ((x / 65536 / 65536 : Nat) : Int) / 65536 = ((x / 65536 / 65536 / 65536 : Nat) : Int) := rfl
  rw [h1, h2, h3, pv_one n n1 n2, pv_one n n1 n2, pv_one n n1 n2, pv_one n n1 n2]; rfl
theorem box_step {w : World} {B n : Nat} {t : TypeId} {f : Nat → Value} (h : Row w B n t f) (i : Nat) (v : Value) : Row (w.setCell ⟨B, i, none⟩ v).drew B n t (fun j => if j = i then v else f j) := Row.of_block (W := w.setCell ⟨B, i, none⟩ v) (h.set i v) rfl
theorem below_step {W w : World} {B : Nat} (h : Below W.heap.size W w) (hB : W.heap.size ≤ B) (i : Nat) (v : Value) : Below W.heap.size W (w.setCell ⟨B, i, none⟩ v).drew := Below.drew (h.setCell (p := ⟨B, i, none⟩) hB v)
theorem box_far {w : World} {A B n : Nat} {t : TypeId} {f : Nat → Value} (h : Row w A n t f) (hne : A ≠ B) (i : Nat) (v : Value) : Row (w.setCell ⟨B, i, none⟩ v).drew A n t f := Row.of_block (W := w.setCell ⟨B, i, none⟩ v) (h.other hne v) rfl
theorem box_new {w : World} {B : Nat} {t : TypeId} {z : Value} (h : w.heap[B]? = some (.cells #[z, z, z, z] t)) : Row w B 4 t (fun _ => z) := ⟨_, h, Nat.le_refl 4, fun i hi => by
  rcases i with _ | _ | _ | _ | i
  · rfl
  · rfl
  · rfl
  · rfl
  · omega⟩
theorem pv_eq2 (x n : Nat) (n1 : 16 ≤ n) (n2 : n ≤ 65536) : Value.agg #[.int .i64 (wrap64 ((x : Int) % n)), .int .i64 (wrap64 ((x : Int) / 65536 % n)), .int .i64 (wrap64 ((x : Int) / 4294967296 % n)), .int .i64 (wrap64 ((x : Int) / 281474976710656 % n))] = pv x n := by
  rw [← pv_eq x n n1 n2, Int.ediv_ediv_of_nonneg (by decide), Int.ediv_ediv_of_nonneg (by decide)]; rfl
theorem four_cells {w : World} {A : Nat} {t : TypeId} {f : Nat → Value} (h : Row w A 4 t f) (v0 v1 v2 v3 : Value) :
    let u := (((w.setCell ⟨A, 0, none⟩ v0).setCell ⟨A, 1, none⟩ v1).setCell ⟨A, 2, none⟩ v2).setCell ⟨A, 3, none⟩ v3
    u.cell? ⟨A, 0, none⟩ = some v0 ∧ u.cell? ⟨A, 1, none⟩ = some v1 ∧ u.cell? ⟨A, 2, none⟩ = some v2 ∧ u.cell? ⟨A, 3, none⟩ = some v3 := by
  have r := (((h.set 0 v0).set 1 v1).set 2 v2).set 3 v3
  exact ⟨r.cell 0 (by decide), r.cell 1 (by decide), r.cell 2 (by decide), r.cell 3 (by decide)⟩
theorem sumR (sd : Int) (hs : Word sd) (k : ByteArray) (hk : k.size ≤ maxLen) (w : World) :
    Calls Try.prog 69 #[.agg #[.int .u64 sd, .bool false], .string k] w fun e w' => e = .returned (.int .u64 (sumN sd k : Int)) ∧ Below w.heap.size w w' := by
  rw [← sumN_eq]; exact sum_any sd hs false k hk w
set_option maxRecDepth 100000 in
set_option maxHeartbeats 1000000 in
theorem rplc {W : World} {m t sd : Int} (hs : Word sd) {n r1 c1 r2 c2 r3 c3 r4 c4 : Nat} (n1 : 16 ≤ n) (n2 : n ≤ 65536) (k : ByteArray) (hk : k.size ≤ maxLen) :
    Calls Try.prog 35 #[sk n m t sd n r1 c1 r2 c2 r3 c3 r4 c4, .string k] W fun e w' => e = .returned (pv (sumN sd k) n) ∧ Below W.heap.size W w' := by
  have HS := Lib.hid (rsumR sd hs k hk)
  have hl := sumN_lt sd k
  unfold sk
  go_enter Try.func35, Try.ntmps35
  go_wp2_with fail
  refine (HS.out _).mono ?_
  rintro e w1 ⟨rfl, rfl⟩
  generalize hx : sumN sd k = x at *
  have HX := Lib.hid hx
  clear hx
  go_wp2_with fail
  refine wp_loop_rounds 5 ?_
  iterate 5
    rw [rounds_succ]
    go_wp2_with fail
  refine bodyPost_ret (v := pv x n) (by simp [results, ← pv_eq x n n1 n2, Try.results35, go_sem]) rfl ⟨by rw [HX.out], by go_grown⟩
set_option maxRecDepth 100000 in
set_option maxHeartbeats 1000000 in
theorem pplc {W : World} {p : Nat} {m t sd : Int} (hs : Word sd) {n q1 c1 q2 c2 q3 c3 q4 c4 : Nat} (h : Sk W p m t sd n q1 c1 q2 c2 q3 c3 q4 c4) (n1 : 16 ≤ n) (n2 : n ≤ 65536) (k : ByteArray) (hk : k.size ≤ maxLen) :
    Calls Try.prog 64 #[.pointer (some ⟨p, 0, none⟩), .string k] W fun e w' => e = .returned (pv (sumN sd k) n) ∧ Below W.heap.size W w' := by
  have HS := Lib.hid (sumR sd hs k hk)
  have hl := sumN_lt sd k
  have d0 := h.c0
  have d3 := h.c3
  have d4 := h.c4
  have hp := h.lt
  go_enter Try.func64, Try.ntmps64
  go_wp2_with fail
  refine (HS.out _).mono ?_
  rintro e w1 ⟨rfl, b1⟩
  have hs1 := b1.size
  simp only [World.size_alloc] at hs1
  have B1 := Lib.hid (show Below W.heap.size W w1 from tr (by go_grown) b1)
  have f0 := (h.below B1.out).c0
  clear d0 d3 d4
  have hbx : w1.heap[W.heap.size + 1]? = some (.cells #[.int .i64 0, .int .i64 0, .int .i64 0, .int .i64 0] 71) := by
    have := b1.block (W.heap.size + 1) (by simp)
    rw [this, ← World.size_alloc W (.cells #[.int .i64 0, .int .i64 0, .int .i64 0, .int .i64 0] 71)]
    exact (MapKept.heap_alloc _ _).1
  have RB := Lib.hid (box_new hbx)
  have hax : w1.heap[W.heap.size]? = some (.cells #[.int .i64 0, .int .i64 0, .int .i64 0, .int .i64 0] 71) := by
    rw [b1.block W.heap.size (by simp; omega), Below.heap_alloc _ _ _ (by simp)]
    exact (MapKept.heap_alloc _ _).1
  have RA0 := Lib.hid (box_new hax)
  clear b1 hbx hax
  have w0 : IntKind.i64.wrap 0 = 0 := by decide
  have w16 : IntKind.i64.wrap 16 = 16 := by decide
  have w32 : IntKind.i64.wrap 32 = 32 := by decide
  have w48 : IntKind.i64.wrap 48 = 48 := by decide
  have hu : IntKind.u64.wrap (n : Int) = n := IntWalk.u64_in _ (by omega)
  generalize hx : sumN sd k = x at *
  have HX := Lib.hid hx
  clear hx
  go_wp2_with fail
  refine wp_loop_rounds 5 ?_
  have g0 := RB.out.cell 0 (by decide)
  have gf := RB.out.fr
  rw [rounds_succ]
  go_wp2_with fail
  go_region_with fail
  have RC := Lib.hid (box_step RB.out 0 (.int .i64 (IntKind.i64.wrap (↑x % ↑n))))
  have RA1 := Lib.hid (box_far RA0.out (by omega : W.heap.size ≠ W.heap.size + 1) 0 (.int .i64 (IntKind.i64.wrap (↑x % ↑n))))
  have BC := Lib.hid (below_step B1.out (by omega : W.heap.size ≤ W.heap.size + 1) 0 (.int .i64 (IntKind.i64.wrap (↑x % ↑n))))
  clear g0 gf f0 RB B1 hs1 RA0
  generalize (w1.setCell ⟨W.heap.size + 1, 0, none⟩ (.int .i64 (IntKind.i64.wrap (↑x % ↑n)))).drew = V1 at *
  have f0 := (h.below BC.out).c0
  have g1 := RC.out.cell 1 (by decide)
  have gf := RC.out.fr
  go_wp2_with fail
  rw [rounds_succ]
  go_wp2_with fail
  go_region_with fail
  have RD := Lib.hid (box_step RC.out 1 (.int .i64 (IntKind.i64.wrap (((x : Int) / 65536).tmod (n : Int)))))
  have RA2 := Lib.hid (box_far RA1.out (by omega : W.heap.size ≠ W.heap.size + 1) 1 (.int .i64 (IntKind.i64.wrap (((x : Int) / 65536).tmod (n : Int)))))
  have BD := Lib.hid (below_step BC.out (by omega : W.heap.size ≤ W.heap.size + 1) 1 (.int .i64 (IntKind.i64.wrap (((x : Int) / 65536).tmod (n : Int)))))
  clear g1 gf f0 RC BC RA1
  generalize (V1.setCell ⟨W.heap.size + 1, 1, none⟩ (.int .i64 (IntKind.i64.wrap (((x : Int) / 65536).tmod (n : Int))))).drew = V2 at *
  have f0 := (h.below BD.out).c0
  have g2 := RD.out.cell 2 (by decide)
  have gf := RD.out.fr
  go_wp2_with fail
  rw [rounds_succ]
  go_wp2_with fail
  go_region_with fail
  have RE := Lib.hid (box_step RD.out 2 (.int .i64 (IntKind.i64.wrap (((x : Int) / 4294967296).tmod (n : Int)))))
  have RA3 := Lib.hid (box_far RA2.out (by omega : W.heap.size ≠ W.heap.size + 1) 2 (.int .i64 (IntKind.i64.wrap (((x : Int) / 4294967296).tmod (n : Int)))))
  have BE := Lib.hid (below_step BD.out (by omega : W.heap.size ≤ W.heap.size + 1) 2 (.int .i64 (IntKind.i64.wrap (((x : Int) / 4294967296).tmod (n : Int)))))
  clear g2 gf f0 RD BD RA2
  generalize (V2.setCell ⟨W.heap.size + 1, 2, none⟩ (.int .i64 (IntKind.i64.wrap (((x : Int) / 4294967296).tmod (n : Int))))).drew = V3 at *
  have f0 := (h.below BE.out).c0
  have g3 := RE.out.cell 3 (by decide)
  have gf := RE.out.fr
  go_wp2_with fail
  rw [rounds_succ]
  go_wp2_with fail
  go_region_with fail
  have RF := Lib.hid (box_step RE.out 3 (.int .i64 (IntKind.i64.wrap (((x : Int) / 281474976710656).tmod (n : Int)))))
  have RA4 := Lib.hid (box_far RA3.out (by omega : W.heap.size ≠ W.heap.size + 1) 3 (.int .i64 (IntKind.i64.wrap (((x : Int) / 281474976710656).tmod (n : Int)))))
  have BF := Lib.hid (below_step BE.out (by omega : W.heap.size ≤ W.heap.size + 1) 3 (.int .i64 (IntKind.i64.wrap (((x : Int) / 281474976710656).tmod (n : Int)))))
  clear g3 gf f0 RE BE RA3
  generalize (V3.setCell ⟨W.heap.size + 1, 3, none⟩ (.int .i64 (IntKind.i64.wrap (((x : Int) / 281474976710656).tmod (n : Int))))).drew = V4 at *
  have f0 := (h.below BF.out).c0
  have g0 := RF.out.cell 0 (by decide)
  have g1 := RF.out.cell 1 (by decide)
  have g2 := RF.out.cell 2 (by decide)
  have g3 := RF.out.cell 3 (by decide)
  have gf := RF.out.fr
  have a0 := RA4.out.cell 0 (by decide)
  have a1 := RA4.out.cell 1 (by decide)
  have a2 := RA4.out.cell 2 (by decide)
  have a3 := RA4.out.cell 3 (by decide)
  have af := RA4.out.fr
  go_wp2_with fail
  rw [rounds_succ]
  go_wp2_with fail
  obtain ⟨z0, z1, z2, z3⟩ := four_cells RA4.out (.int .i64 (wrap64 ((x : Int) % (n : Int)))) (.int .i64 (wrap64 ((x : Int) / 65536 % (n : Int)))) (.int .i64 (wrap64 ((x : Int) / 4294967296 % (n : Int)))) (.int .i64 (wrap64 ((x : Int) / 281474976710656 % (n : Int))))
  have BZ := Lib.hid (show Below W.heap.size W ((((V4.setCell ⟨W.heap.size, 0, none⟩ (.int .i64 (wrap64 ((x : Int) % (n : Int))))).setCell ⟨W.heap.size, 1, none⟩ (.int .i64 (wrap64 ((x : Int) / 65536 % (n : Int))))).setCell ⟨W.heap.size, 2, none⟩ (.int .i64 (wrap64 ((x : Int) / 4294967296 % (n : Int))))).setCell ⟨W.heap.size, 3, none⟩ (.int .i64 (wrap64 ((x : Int) / 281474976710656 % (n : Int))))) from (((BF.out.setCell (p := ⟨W.heap.size, 0, none⟩) (Nat.le_refl _) _).setCell (p := ⟨W.heap.size, 1, none⟩) (Nat.le_refl _) _).setCell (p := ⟨W.heap.size, 2, none⟩) (Nat.le_refl _) _).setCell (p := ⟨W.heap.size, 3, none⟩) (Nat.le_refl _) _)
  generalize ((((V4.setCell ⟨W.heap.size, 0, none⟩ (.int .i64 (wrap64 ((x : Int) % (n : Int))))).setCell ⟨W.heap.size, 1, none⟩ (.int .i64 (wrap64 ((x : Int) / 65536 % (n : Int))))).setCell ⟨W.heap.size, 2, none⟩ (.int .i64 (wrap64 ((x : Int) / 4294967296 % (n : Int))))).setCell ⟨W.heap.size, 3, none⟩ (.int .i64 (wrap64 ((x : Int) / 281474976710656 % (n : Int))))) = U at *
  refine bodyPost_ret (v := pv x n) (by simp [results, z0, z1, z2, z3, ← pv_eq2 x n n1 n2, Try.results64, go_sem]) rfl ⟨by rw [HX.out], BZ.out⟩
end Go.Proofs.Ytohldfhelppehaa.Skt
