/-
  Adaptive replacement (layer 29), the reference: Use of a key of the first ghost list.
-/
import Derived.Test.YtggimkfepcgaoaaArqF
import Derived.Test.YtggimkfepcgaoaaArqG
import Derived.Deep.QuietTactic
import Derived.BigQuiet
set_option linter.unusedVariables false
set_option linter.unusedSimpArgs false
namespace Go.Proofs.Ytggimkfepcgaoaa.Arc
open Go Go.RowKit Kit Go.Maps Lnk Gho
def ldU : Op := Op.load 3 (.tmp 41)
/-- the results as the turn and the cache are stored, in either order -/
structure Fin (w wf : World) (L : Nat → List Nat) (f : Nat → Value) (a0 a1 a2 a3 a4 a5 g0 g1 g2 : Value) : Prop where
  c : wf.cell? ⟨w.heap.size + 1, 0, none⟩ = some a0 ∧ wf.cell? ⟨w.heap.size + 1, 1, none⟩ = some a1 ∧ wf.cell? ⟨w.heap.size + 1, 2, none⟩ = some a2 ∧ wf.cell? ⟨w.heap.size + 1, 3, none⟩ = some a3 ∧ wf.cell? ⟨w.heap.size + 1, 4, none⟩ = some a4 ∧ wf.cell? ⟨w.heap.size + 1, 5, none⟩ = some a5 ∧ wf.cell? ⟨w.heap.size + 1 + 1, 0, none⟩ = some g0 ∧ wf.cell? ⟨w.heap.size + 1 + 1, 1, none⟩ = some g1 ∧ wf.cell? ⟨w.heap.size + 1 + 1, 2, none⟩ = some g2
  r : Rs wf L f
  b : Below w.heap.size w wf
theorem Fin.drew {w wf : World} {L : Nat → List Nat} {f : Nat → Value} {a0 a1 a2 a3 a4 a5 g0 g1 g2 : Value} (h : Fin w wf L f a0 a1 a2 a3 a4 a5 g0 g1 g2) : Fin w wf.drew L f a0 a1 a2 a3 a4 a5 g0 g1 g2 := ⟨h.c, h.r.below (by go_grown), tr h.b (by go_grown)⟩
theorem Uf.finA {w u : World} {s : Nat} {t : Int} {L : Nat → List Nat} {f : Nat → Value} {x0 x1 x2 a0 a1 a2 a3 a4 a5 g0 g1 g2 : Value} (h : Uf w u s t L f x0 x1 x2) : Fin w (((((((((u.setCell ⟨w.heap.size + 1, 0, none⟩ a0).setCell ⟨w.heap.size + 1, 1, none⟩ a1).setCell ⟨w.heap.size + 1, 2, none⟩ a2).setCell ⟨w.heap.size + 1, 3, none⟩ a3).setCell ⟨w.heap.size + 1, 4, none⟩ a4).setCell ⟨w.heap.size + 1, 5, none⟩ a5).setCell ⟨w.heap.size + 1 + 1, 0, none⟩ g0).setCell ⟨w.heap.size + 1 + 1, 1, none⟩ g1).setCell ⟨w.heap.size + 1 + 1, 2, none⟩ g2).drew L f a0 a1 a2 a3 a4 a5 g0 g1 g2 := by
  obtain ⟨wf, rfl, hc, hr, hb⟩ := h.fin a0 a1 a2 a3 a4 a5 g0 g1 g2
  exact (Fin.mk hc hr hb).drew
theorem Uf.finB {w u : World} {s : Nat} {t : Int} {L : Nat → List Nat} {f : Nat → Value} {x0 x1 x2 a0 a1 a2 a3 a4 a5 g0 g1 g2 : Value} (h : Uf w u s t L f x0 x1 x2) : Fin w (((((((((u.setCell ⟨w.heap.size + 1 + 1, 0, none⟩ g0).setCell ⟨w.heap.size + 1 + 1, 1, none⟩ g1).setCell ⟨w.heap.size + 1 + 1, 2, none⟩ g2).setCell ⟨w.heap.size + 1, 0, none⟩ a0).setCell ⟨w.heap.size + 1, 1, none⟩ a1).setCell ⟨w.heap.size + 1, 2, none⟩ a2).setCell ⟨w.heap.size + 1, 3, none⟩ a3).setCell ⟨w.heap.size + 1, 4, none⟩ a4).setCell ⟨w.heap.size + 1, 5, none⟩ a5).drew L f a0 a1 a2 a3 a4 a5 g0 g1 g2 := by
  have hs := h.lt
  obtain ⟨e2, k2⟩ := tset (d0 := g0) (d1 := g1) (d2 := g2) h.c
  have s2 := k2.size
  have B2 := ((h.w'.setCell (p := ⟨w.heap.size + 1 + 1, 0, none⟩) (Nat.le_add_right _ 2) g0).setCell (p := ⟨w.heap.size + 1 + 1, 1, none⟩) (Nat.le_add_right _ 2) g1).setCell (p := ⟨w.heap.size + 1 + 1, 2, none⟩) (Nat.le_add_right _ 2) g2
  generalize ((u.setCell ⟨w.heap.size + 1 + 1, 0, none⟩ g0).setCell ⟨w.heap.size + 1 + 1, 1, none⟩ g1).setCell ⟨w.heap.size + 1 + 1, 2, none⟩ g2 = v at *
  have c1 := (k2.block (w.heap.size + 1) (by omega) (by omega)).trans h.b
  obtain ⟨e1, k1⟩ := sset (d0 := a0) (d1 := a1) (d2 := a2) (d3 := a3) (d4 := a4) (d5 := a5) c1
  have B1 := (((((B2.setCell (p := ⟨w.heap.size + 1, 0, none⟩) (Nat.le_succ _) a0).setCell (p := ⟨w.heap.size + 1, 1, none⟩) (Nat.le_succ _) a1).setCell (p := ⟨w.heap.size + 1, 2, none⟩) (Nat.le_succ _) a2).setCell (p := ⟨w.heap.size + 1, 3, none⟩) (Nat.le_succ _) a3).setCell (p := ⟨w.heap.size + 1, 4, none⟩) (Nat.le_succ _) a4).setCell (p := ⟨w.heap.size + 1, 5, none⟩) (Nat.le_succ _) a5
  generalize (((((v.setCell ⟨w.heap.size + 1, 0, none⟩ a0).setCell ⟨w.heap.size + 1, 1, none⟩ a1).setCell ⟨w.heap.size + 1, 2, none⟩ a2).setCell ⟨w.heap.size + 1, 3, none⟩ a3).setCell ⟨w.heap.size + 1, 4, none⟩ a4).setCell ⟨w.heap.size + 1, 5, none⟩ a5 = v2 at *
  have e3 := (k1.block (w.heap.size + 1 + 1) (by omega) (by omega)).trans e2
  refine (Fin.mk ?_ (fun i hi => ((h.r i hi).kp k2 fun p n c hf y hy => by have := h.o i hi p n c y hf hy; omega).kp k1 fun p n c hf y hy => by have := h.o i hi p n c y hf hy; omega) B1).drew
  refine ⟨?_, ?_, ?_, ?_, ?_, ?_, ?_, ?_, ?_⟩ <;> simp [World.cell?, e1, e3]
set_option maxRecDepth 100000 in
set_option maxHeartbeats 4000000 in
theorem ruse_two {w : World} {s : Nat} {t : Int} {L : Nat → List Nat} {f : Nat → Value} (h : Rs w L f) (hn : ∀ i, i < 4 → (L i).length ≤ 4096) (hs2 : s ≤ 1024) (ht : 0 ≤ t ∧ t ≤ 1024) (x : Nat) (hx0 : x ∉ L 0) (hx1 : x ∉ L 1) (hx2 : x ∈ L 2) {L' : Nat → List Nat} {left : Bool} {out : Nat} (hr : roomR s (tgt2 s t L) false L = (L', left, out)) (hn' : ∀ i, i < 4 → (L' i).length ≤ 100000) (hf : s ≤ (L 0).length + (L 1).length → 0 < (L (fromA L (tgt2 s t L) false)).length) :
    Calls Try.prog 121 #[rv29 s t f, .int .u32 (x : Int)] w fun e w' => ∃ f', e = .returned (.tuple #[rv29 s (tgt2 s t L) f', tv false left (out : Int)]) ∧ Rs w' (upd (upd L' 2 (wout (L' 2) x)) 1 (x :: L' 1)) f' ∧ Nf w f f' ∧ Below w.heap.size w w' := by
  have HHAS := Lib.hid (fun u (hb : Rs u L f) => rhas29_any (s := s) (t := t) hb (fun i hi => Nat.le_trans (hn i hi) (by omega)) x)
  have HB := Lib.hid (Uf.begin (s := s) (t := t) h)
  have HRM := Lib.hid (fun u (hb : Rs u L f) => rroom_any hb (fun i hi => Nat.le_trans (hn i hi) (by omega)) false hf hr)
  rw [decide_eq_false (by rintro (h | h); exact hx0 h; exact hx1 h)] at HHAS
  obtain ⟨p0, n0, c0, e0, l0, k0, r0, b0⟩ := h 0 (by omega)
  obtain ⟨p1, n1, c1, e1, l1, k1, r1, b1⟩ := h 1 (by omega)
  obtain ⟨p2, n2, c2, e2, l2, k2, r2, b2⟩ := h 2 (by omega)
  obtain ⟨p3, n3, c3, e3, l3, k3, r3, b3⟩ := h 3 (by omega)
  have HN' := Lib.hid hn'
  have HLL := Lib.hid (show f 0 = .slice p0 n0 c0 ∧ f 1 = .slice p1 n1 c1 ∧ f 2 = .slice p2 n2 c2 ∧ f 3 = .slice p3 n3 c3 from ⟨e0, e1, e2, e3⟩)
  have HI2 := Lib.hid (fun u (hb : Below w.heap.size w u) => (by have := rin_any (c := c2) l2 (by have := hn 2 (by omega); omega) (r2.below hb) x; rwa [decide_eq_true hx2] at this : Calls Try.prog 149 #[.slice p2 n2 c2, .int .u32 (x : Int)] u fun e w' => e = .returned (.bool true) ∧ Below u.heap.size u w'))
  have hp2 : 1 ≤ n2 := by rw [← l2]; exact List.length_pos_of_mem hx2
  have hl2 := hn 2 (by omega)
  have hl3 := hn 3 (by omega)
  rw [l2] at hl2
  rw [l3] at hl3
  unfold tgt2 at HRM ⊢
  rw [l2, l3] at HRM ⊢
  obtain ⟨q, hq⟩ : ∃ q, Int.tdiv (n3 : Int) (n2 : Int) = q := ⟨_, rfl⟩
  have hq0 : 0 ≤ q := by rw [← hq]; exact Int.tdiv_nonneg (by omega) (by omega)
  have hq1 : q ≤ 4096 := by rw [← hq]; exact Int.le_trans (Int.tdiv_le_self _ (by omega)) (by omega)
  rw [hq] at HRM ⊢
  obtain ⟨M, hM⟩ : ∃ M : Int, max 1 q = M := ⟨_, rfl⟩
  have hM2 : 1 ≤ M ∧ M ≤ 4096 := by omega
  rw [hM] at HRM ⊢
  obtain ⟨T, hT⟩ : ∃ T : Int, min (s : Int) (t + M) = T := ⟨_, rfl⟩
  rw [hT] at HRM ⊢
  have hmx : (if 1 < q then q else 1) = M := by split <;> omega
  have hmn : (if t + M < (s : Int) then t + M else (s : Int)) = T := by split <;> omega
  have wq := IntWalk.i64_in q (by omega)
  have wt := IntWalk.i64_in (t + M) (by omega)
  have hz0 : ((n2 : Int) == 0) = false := by rw [beq_eq_false_iff_ne]; omega
  have hz1 : ¬ n2 = 0 := by omega
  have hz2 : ¬ (n2 : Int) = 0 := by omega
  have hz3 : (0 : Int) < (n2 : Int) := by omega
  unfold rv29 at HHAS ⊢
  rw [e0, e1, e2, e3] at HHAS HB ⊢
  go_enter Try.func121, Try.ntmps121
  go_upto_region 2 with fail
  generalize (((w.alloc (.cells #[.int .i64 (s : Int), .slice p0 n0 c0, .slice p1 n1 c1, .slice p2 n2 c2, .slice p3 n3 c3, .int .i64 t] 97)).alloc (.cells #[.int .i64 0, .slice none 0 0, .slice none 0 0, .slice none 0 0, .slice none 0 0, .int .i64 0] 97)).alloc (.cells #[.bool false, .bool false, .int .u32 0] 110)).alloc (.cells #[.bool false, .bool false, .int .u32 0] 110) = w4 at *
  clear h hn hn' hx0 hx1 hx2 hr hf e0 e1 e2 e3 l0 l1 l2 l3 k0 k1 k2 k3 r0 r1 r2 r3 b0 b1 b2 b3 hq0 hq1 hM hM2 hT hs2 ht hp2 hl2 hl3
  have C := HB.out.cells
  simp [upd', HLL.out.1, HLL.out.2.1, HLL.out.2.2.1, HLL.out.2.2.2] at C
  obtain ⟨d0, d1, d2, d3, d4, d5, df⟩ := C
  go_quiet (fail)
  have U5 := Lib.hid (HB.out.call (below_drewN (Below.refl w4.heap.size w4) nq))
  clear d0 d1 d2 d3 d4 d5 df HB
  generalize w4.drewN nq = w5 at *
  have C := U5.out.cells
  simp [upd', HLL.out.1, HLL.out.2.1, HLL.out.2.2.1, HLL.out.2.2.2] at C
  obtain ⟨d0, d1, d2, d3, d4, d5, df⟩ := C
  go_wp2_with fail
  refine (HHAS.out _ U5.out.r).mono ?_
  rintro e w6 ⟨rfl, b6⟩
  have U6 := Lib.hid (U5.out.call b6)
  clear d0 d1 d2 d3 d4 d5 df b6 U5 HHAS
  have C := U6.out.cells
  simp [upd', HLL.out.1, HLL.out.2.1, HLL.out.2.2.1, HLL.out.2.2.2] at C
  obtain ⟨d0, d1, d2, d3, d4, d5, df⟩ := C
  go_wp2_with fail
  refine (HI2.out _ U6.out.w').mono ?_
  rintro e w7 ⟨rfl, b7⟩
  have U7 := Lib.hid (U6.out.call b7)
  clear d0 d1 d2 d3 d4 d5 df b7 U6 HI2
  have C := U7.out.cells
  simp [upd', HLL.out.1, HLL.out.2.1, HLL.out.2.2.1, HLL.out.2.2.2] at C
  obtain ⟨d0, d1, d2, d3, d4, d5, df⟩ := C
  go_upto_region 8 with fail
  have hld : ldU = Op.load 3 (.tmp 41) := rfl
  rw [← hld]
  have e0 : w7.drew.cell? ⟨w.heap.size, 0, none⟩ = some (.int .i64 (s : Int)) := d0
  have e1 : (w7.setCell ⟨w.heap.size, 5, none⟩ (.int .i64 T)).drew.cell? ⟨w.heap.size, 0, none⟩ = some (.int .i64 (s : Int)) := (U7.out.tgt T).cells.1
  apply Gho.region_one (R := fun u => u = (w7.setCell ⟨w.heap.size, 5, none⟩ (.int .i64 T)).drew)
  case first =>
    go_region_held3 (fun u => u.cell? ⟨w.heap.size, 0, none⟩ = some (.int .i64 (s : Int)))
      (first
        | assumption
        | fail)
      (first
        | (rw [hld]; fail)
        | fail)
    all_goals (dsimp only [midQ]; exact ⟨rfl, rfl⟩)
  case rest =>
  rintro u8 rfl
  have U8 := Lib.hid (show Uf w (w7.setCell ⟨w.heap.size, 5, none⟩ (.int .i64 T)).drew s T _ _ _ _ _ from (U7.out.tgt T).call (by go_grown))
  clear d0 d1 d2 d3 d4 d5 df U7 e0 e1 hmx hmn wq wt hz0 hz1 hz2 hz3 hq
  generalize (w7.setCell ⟨w.heap.size, 5, none⟩ (.int .i64 T)).drew = w8 at *
  have C := U8.out.cells
  simp [upd', HLL.out.1, HLL.out.2.1, HLL.out.2.2.1, HLL.out.2.2.2] at C
  obtain ⟨d0, d1, d2, d3, d4, d5, df⟩ := C
  have HR8 := Lib.hid (HRM.out w8 U8.out.r)
  unfold rv29 at HR8
  rw [HLL.out.1, HLL.out.2.1, HLL.out.2.2.1, HLL.out.2.2.2] at HR8
  go_wp2_with fail
  refine HR8.out.mono ?_
  rintro e w9 ⟨f', rfl, R9, N9, b9⟩
  have U9 := Lib.hid (U8.out.call b9)
  have HN9 := Lib.hid (And.intro R9 (And.intro (U8.out.off N9) N9))
  have SZ := Lib.hid (show w.heap.size + 3 < w8.heap.size from U8.out.lt)
  obtain ⟨p0', n0', c0', g0, -⟩ := R9 0 (by omega)
  obtain ⟨p1', n1', c1', g1, l1', -, r1', -⟩ := R9 1 (by omega)
  obtain ⟨p2', n2', c2', g2, l2', -, r2', -⟩ := R9 2 (by omega)
  obtain ⟨p3', n3', c3', g3, -⟩ := R9 3 (by omega)
  have HGG := Lib.hid (show f' 0 = .slice p0' n0' c0' ∧ f' 1 = .slice p1' n1' c1' ∧ f' 2 = .slice p2' n2' c2' ∧ f' 3 = .slice p3' n3' c3' from ⟨g0, g1, g2, g3⟩)
  have HRR := Lib.hid (show (L' 1).length = n1' ∧ (L' 2).length = n2' ∧ Ru w9 p1' (ints (L' 1)) ∧ Ru w9 p2' (ints (L' 2)) from ⟨l1', l2', r1', r2'⟩)
  rw [g0, g1, g2, g3]
  clear d0 d1 d2 d3 d4 d5 df R9 N9 b9 U8 HR8 HRM g0 g1 g2 g3 l1' l2' r1' r2'
  obtain ⟨d0, d1, d2, d3, d4, d5, df⟩ := U9.out.cells
  obtain ⟨-, y0, y1, y2, yf⟩ := U9.out.turns
  go_upto_region 10 with fail
  have U10 := Lib.hid ((U9.out.all T HN9.out.1 HN9.out.2.1).turn (.bool false) (.bool left) (.int .u32 (out : Int)))
  rw [HGG.out.1, HGG.out.2.1, HGG.out.2.2.1, HGG.out.2.2.2] at U10
  clear d0 d1 d2 d3 d4 d5 df y0 y1 y2 yf U9 HRR
  generalize ((((((((w9.setCell ⟨w.heap.size, 0, none⟩ (.int .i64 (s : Int))).setCell ⟨w.heap.size, 1, none⟩ (.slice p0' n0' c0')).setCell ⟨w.heap.size, 2, none⟩ (.slice p1' n1' c1')).setCell ⟨w.heap.size, 3, none⟩ (.slice p2' n2' c2')).setCell ⟨w.heap.size, 4, none⟩ (.slice p3' n3' c3')).setCell ⟨w.heap.size, 5, none⟩ (.int .i64 T)).setCell ⟨w.heap.size + 1 + 1 + 1, 0, none⟩ (.bool false)).setCell ⟨w.heap.size + 1 + 1 + 1, 1, none⟩ (.bool left)).setCell ⟨w.heap.size + 1 + 1 + 1, 2, none⟩ (.int .u32 (out : Int)) = w10 at *
  have C := U10.out.cells
  simp [upd', HGG.out.1, HGG.out.2.1, HGG.out.2.2.1, HGG.out.2.2.2] at C
  obtain ⟨d0, d1, d2, d3, d4, d5, df⟩ := C
  obtain ⟨_, _, _, v2, l2, -, r2, -⟩ := U10.out.r 2 (by omega)
  rw [HGG.out.2.2.1] at v2
  cases v2
  have HWO := Lib.hid (rwout_any (c := c2') l2 (by have := HN'.out 2 (by omega); omega) r2 x)
  clear l2 r2
  go_wp2_with fail
  refine HWO.out.mono ?_
  rintro e w11 ⟨q3, m3, k3, rfl, R11, f11, b11⟩
  have P11 := Lib.hid (show ∀ y, q3 = some y → w.heap.size + 3 < y.block from fun y hy => Nat.lt_of_lt_of_le U10.out.lt (f11 y hy))
  have U11 := Lib.hid (U10.out.call b11)
  clear d0 d1 d2 d3 d4 d5 df b11 U10 HWO f11
  have C := U11.out.cells
  simp [upd', HGG.out.1, HGG.out.2.1, HGG.out.2.2.1, HGG.out.2.2.2] at C
  obtain ⟨d0, d1, d2, d3, d4, d5, df⟩ := C
  have U12 := Lib.hid (show Uf w (w11.setCell ⟨w.heap.size, 3, none⟩ (.slice q3 m3 k3)) s T _ _ _ _ _ from U11.out.put (i := 2) (by omega) R11 P11.out)
  clear R11 U11
  go_upto_region 11 with fail
  clear d0 d1 d2 d3 d4 d5 df
  generalize w11.setCell ⟨w.heap.size, 3, none⟩ (.slice q3 m3 k3) = w12 at *
  have C := U12.out.cells
  simp [upd', HGG.out.1, HGG.out.2.1, HGG.out.2.2.1, HGG.out.2.2.2] at C
  obtain ⟨d0, d1, d2, d3, d4, d5, df⟩ := C
  obtain ⟨_, _, _, v2, l2, -, r2, -⟩ := U12.out.r 1 (by omega)
  rw [show upd' f' 2 (.slice q3 m3 k3) 1 = f' 1 from rfl, HGG.out.2.1] at v2
  rw [show upd L' 2 (wout (L' 2) x) 1 = L' 1 from rfl] at l2 r2
  cases v2
  have HNW := Lib.hid (rnewest_any (c := c1') l2 (by have := HN'.out 1 (by omega); omega) r2 x)
  have hl10 : (x :: L' 1).length = n1' + 1 := by rw [List.length_cons, l2]
  clear l2 r2
  go_wp2_with fail
  refine HNW.out.mono ?_
  rintro e w13 ⟨q4, k4, rfl, R13, b13⟩
  have P13 := Lib.hid (show ∀ y, q4 = some y → w.heap.size + 3 < y.block from fun y hy => by subst hy; have := U12.out.lt; have := (R13.lt y.block rfl).1; omega)
  have U13 := Lib.hid (U12.out.call b13)
  have U14 := Lib.hid (show Uf w (w13.setCell ⟨w.heap.size, 2, none⟩ (.slice q4 (n1' + 1) k4)) s T _ _ _ _ _ from U13.out.put (i := 1) (by omega) (Lv.of R13 hl10) P13.out)
  clear d0 d1 d2 d3 d4 d5 df b13 U12 HNW R13
  have C := U13.out.cells
  simp [upd', HGG.out.1, HGG.out.2.1, HGG.out.2.2.1, HGG.out.2.2.2] at C
  obtain ⟨d0, d1, d2, d3, d4, d5, df⟩ := C
  go_upto_region 12 with fail
  clear d0 d1 d2 d3 d4 d5 df U13
  generalize w13.setCell ⟨w.heap.size, 2, none⟩ (.slice q4 (n1' + 1) k4) = w14 at *
  have C := U14.out.cells
  simp [upd', HGG.out.1, HGG.out.2.1, HGG.out.2.2.1, HGG.out.2.2.2] at C
  obtain ⟨d0, d1, d2, d3, d4, d5, df⟩ := C
  obtain ⟨m0', m1', m2', m3', m4', m5', mf⟩ := U14.out.boxes
  obtain ⟨⟨y0, y1, y2, yf⟩, y3, y4, y5, yg⟩ := U14.out.turns
  apply Gho.region_one (R := fun u => Fin w u (upd (upd L' 2 (wout (L' 2) x)) 1 (x :: L' 1)) (upd' (upd' f' 2 (.slice q3 m3 k3)) 1 (.slice q4 (n1' + 1) k4)) (.int .i64 (s : Int)) (.slice p0' n0' c0') (.slice q4 (n1' + 1) k4) (.slice q3 m3 k3) (.slice p3' n3' c3') (.int .i64 T) (.bool false) (.bool left) (.int .u32 (out : Int)))
  case first =>
    go_region_with fail
    all_goals
      dsimp only [midQ]
      first
      | exact ⟨rfl, U14.out.finA⟩
      | exact ⟨rfl, U14.out.finB⟩
  case rest =>
  intro u15 HF
  obtain ⟨z0, z1, z2, z3, z4, z5, t0, t1, t2⟩ := HF.c
  go_wp2_with fail
  refine bodyPost_ret (v := .tuple #[.agg #[.int .i64 (s : Int), .slice p0' n0' c0', .slice q4 (n1' + 1) k4, .slice q3 m3 k3, .slice p3' n3' c3', .int .i64 T], tv false left (out : Int)]) (by simp [results, Try.results121, go_sem, z0, z1, z2, z3, z4, z5, t0, t1, t2]) rfl ⟨_, ?_, HF.r, ((Nf.refl f).trans HN9.out.2.2 (by have := SZ.out; omega) |>.put fun y hy => by have := P11.out y hy; omega).put fun y hy => by have := P13.out y hy; omega, HF.b⟩
  simp [upd', HGG.out.1, HGG.out.2.2.2]
end Go.Proofs.Ytggimkfepcgaoaa.Arc
