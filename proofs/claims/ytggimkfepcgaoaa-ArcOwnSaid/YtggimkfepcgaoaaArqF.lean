/-
  Adaptive replacement (layer 29), the reference: Drop.
-/
import Derived.Test.YtggimkfepcgaoaaArqC
import Derived.Deep.QuietTactic
import Derived.BigQuiet
set_option linter.unusedVariables false
set_option linter.unusedSimpArgs false
section
namespace Go.Proofs.Ytggimkfepcgaoaa.Arc
open Go Go.RowKit Kit Go.Maps Lnk Gho
/-- a region whose ways all end in one state -/
theorem region_state {P : Program} {c : Code} {Q : Exit → Act → World → Prop} {a : Act} {w : World} (R : Act → World → Prop)
    (first : Code.wp P c (midQ R) a w) (rest : ∀ a w, R a w → Q .normal a w) : Code.wp P c Q a w :=
  Code.wp_mono (fun e a' w' h => by
    cases e
    case normal => exact rest _ _ h
    all_goals exact h.elim) first
/-- Without, as lists go -/
theorem rwout_any {w : World} {p : Option Addr} {n c : Nat} {l : List Nat} (hl : l.length = n) (hn : n ≤ 1000000) (r : Ru w p (ints l)) (x : Nat) :
    Calls Try.prog 142 #[.slice p n c, .int .u32 (x : Int)] w fun e w' => ∃ q m k, e = .returned (.slice q m k) ∧ Lv w' (wout l x) (.slice q m k) ∧ (∀ y, q = some y → w.heap.size ≤ y.block) ∧ Below w.heap.size w w' := by
  refine (rwithout_any hl hn r x).mono ?_
  rintro e w' ⟨u, rfl, hrow, hb⟩
  obtain ⟨q, k, rfl, -, hc⟩ := App.own_form hrow
  exact ⟨q, _, k, rfl, Lv.of hrow rfl, fun y hy => by subst hy; exact (hrow.lt y.block rfl).1, hb⟩
/-- what the two calls and the two stores leave -/
def DQ (w u : World) (s : Nat) (t : Int) (L : Nat → List Nat) (x : Nat) (p2 : Option Addr) (n2 c2 : Nat) (p3 : Option Addr) (n3 c3 : Nat) (q0 : Option Addr) (m0 k0 : Nat) (q1 : Option Addr) (m1 k1 : Nat) : Prop :=
  u.heap[w.heap.size]? = some (.cells #[.int .i64 (s : Int), .slice q0 m0 k0, .slice q1 m1 k1, .slice p2 n2 c2, .slice p3 n3 c3, .int .i64 t] 97 (0, 0)) ∧ u.heap[w.heap.size + 1]? = some (.cells #[.int .i64 0, .slice none 0 0, .slice none 0 0, .slice none 0 0, .slice none 0 0, .int .i64 0] 97 (0, 0)) ∧
  Lv u (wout (L 0) x) (.slice q0 m0 k0) ∧ (∀ y, q0 = some y → w.heap.size + 1 < y.block) ∧ Lv u (wout (L 1) x) (.slice q1 m1 k1) ∧ (∀ y, q1 = some y → w.heap.size + 1 < y.block) ∧ Below w.heap.size w u
section
variable {w u1 u2 : World} {A0 A1 A2 A3 A4 A5 b0 b1 b2 b3 b4 b5 : Value} {ty tz : TypeId} {l0 l1 : List Nat} {q0 q1 : Option Addr} {m0 k0 m1 k1 : Nat}
theorem dq_both (g1 : u1.heap[w.heap.size]? = some (.cells #[A0, A1, A2, A3, A4, A5] ty (0, 0))) (i1 : u1.heap[w.heap.size + 1]? = some (.cells #[b0, b1, b2, b3, b4, b5] tz (0, 0))) (R0 : Lv u1 l0 (.slice q0 m0 k0)) (P0 : ∀ y, q0 = some y → w.heap.size + 1 < y.block) (R1 : Lv u2 l1 (.slice q1 m1 k1)) (f1 : ∀ y, q1 = some y → u1.heap.size ≤ y.block) (bb : Below u1.heap.size u1 u2) (B1 : Below w.heap.size w u1) (s1 : w.heap.size + 1 < u1.heap.size) :
    u2.heap[w.heap.size]? = some (.cells #[A0, A1, A2, A3, A4, A5] ty (0, 0)) ∧ u2.heap[w.heap.size + 1]? = some (.cells #[b0, b1, b2, b3, b4, b5] tz (0, 0)) ∧ Lv u2 l0 (.slice q0 m0 k0) ∧ (∀ y, q0 = some y → w.heap.size + 1 < y.block) ∧ Lv u2 l1 (.slice q1 m1 k1) ∧ (∀ y, q1 = some y → w.heap.size + 1 < y.block) ∧ Below w.heap.size w u2 :=
  ⟨(bb.block _ (by omega)).trans g1, (bb.block _ s1).trans i1, R0.below bb, P0, R1, fun y hy => by have := f1 y hy; omega, tr B1 bb⟩
theorem dq_set (j : Nat) (d : Value) (h : u2.heap[w.heap.size + 1]? = some (.cells #[b0, b1, b2, b3, b4, b5] tz (0, 0)) ∧ Lv u2 l0 (.slice q0 m0 k0) ∧ (∀ y, q0 = some y → w.heap.size + 1 < y.block) ∧ Lv u2 l1 (.slice q1 m1 k1) ∧ (∀ y, q1 = some y → w.heap.size + 1 < y.block) ∧ Below w.heap.size w u2) :
    (u2.setCell ⟨w.heap.size, j, none⟩ d).heap[w.heap.size + 1]? = some (.cells #[b0, b1, b2, b3, b4, b5] tz (0, 0)) ∧ Lv (u2.setCell ⟨w.heap.size, j, none⟩ d) l0 (.slice q0 m0 k0) ∧ (∀ y, q0 = some y → w.heap.size + 1 < y.block) ∧ Lv (u2.setCell ⟨w.heap.size, j, none⟩ d) l1 (.slice q1 m1 k1) ∧ (∀ y, q1 = some y → w.heap.size + 1 < y.block) ∧ Below w.heap.size w (u2.setCell ⟨w.heap.size, j, none⟩ d) := by
  obtain ⟨h1, h2, h3, h4, h5, h6⟩ := h
  have k := kp_set (u := u2) (p := w.heap.size) (j := j) (d := d)
  exact ⟨(k.block _ (Array.getElem?_eq_some_iff.1 h1).1 (by omega)).trans h1, h2.kp k fun p' n' c' e' y hy => by cases e'; have := h3 y hy; omega, h3, h4.kp k fun p' n' c' e' y hy => by cases e'; have := h5 y hy; omega, h5, h6.setCell (p := ⟨w.heap.size, j, none⟩) (Nat.le_refl _) d⟩
theorem dq_one (g1 : u1.heap[w.heap.size]? = some (.cells #[A0, A1, A2, A3, A4, A5] ty (0, 0))) (i1 : u1.heap[w.heap.size + 1]? = some (.cells #[b0, b1, b2, b3, b4, b5] tz (0, 0))) (R0 : Lv u1 l0 (.slice q0 m0 k0)) (P0 : ∀ y, q0 = some y → w.heap.size + 1 < y.block) (R1 : Lv u2 l1 (.slice q1 m1 k1)) (f1 : ∀ y, q1 = some y → (u1.setCell ⟨w.heap.size, 1, none⟩ (.slice q0 m0 k0)).heap.size ≤ y.block) (bb : Below (u1.setCell ⟨w.heap.size, 1, none⟩ (.slice q0 m0 k0)).heap.size (u1.setCell ⟨w.heap.size, 1, none⟩ (.slice q0 m0 k0)) u2) (B1 : Below w.heap.size w u1) (s1 : w.heap.size + 1 < u1.heap.size) :
    u2.heap[w.heap.size]? = some (.cells #[A0, .slice q0 m0 k0, A2, A3, A4, A5] ty (0, 0)) ∧ u2.heap[w.heap.size + 1]? = some (.cells #[b0, b1, b2, b3, b4, b5] tz (0, 0)) ∧ Lv u2 l0 (.slice q0 m0 k0) ∧ (∀ y, q0 = some y → w.heap.size + 1 < y.block) ∧ Lv u2 l1 (.slice q1 m1 k1) ∧ (∀ y, q1 = some y → w.heap.size + 1 < y.block) ∧ Below w.heap.size w u2 := by
  have k := kp_set (u := u1) (p := w.heap.size) (j := 1) (d := .slice q0 m0 k0)
  exact dq_both (heap_set (j := 1) g1 (.slice q0 m0 k0)) ((k.block _ s1 (by omega)).trans i1) (R0.kp k fun p' n' c' e' y hy => by cases e'; have := P0 y hy; omega) P0 R1 f1 bb (B1.setCell (p := ⟨w.heap.size, 1, none⟩) (Nat.le_refl _) _) (Nat.lt_of_lt_of_le s1 k.size)
end
set_option maxRecDepth 100000 in
set_option maxHeartbeats 4000000 in
theorem rdrop29_any {w : World} {s : Nat} {t : Int} {L : Nat → List Nat} {f : Nat → Value} (h : Rs w L f) (hn : ∀ i, i < 4 → (L i).length ≤ 1000000) (x : Nat) :
    Calls Try.prog 122 #[rv29 s t f, .int .u32 (x : Int)] w fun e w' => ∃ f', e = .returned (.tuple #[rv29 s t f', .bool (decide (x ∈ L 0 ∨ x ∈ L 1))]) ∧ Rs w' (upd (upd L 0 (wout (L 0) x)) 1 (wout (L 1) x)) f' ∧ Nf w f f' ∧ Below w.heap.size w w' := by
  have HHAS := Lib.hid (fun u (hb : Below w.heap.size w u) => rhas29_any (s := s) (t := t) (h.below hb) hn x)
  have HRS := Lib.hid h
  unfold rv29 at HHAS ⊢
  obtain ⟨p0, n0, c0, e0, l0, k0, r0, b0⟩ := h 0 (by omega)
  obtain ⟨p1, n1, c1, e1, l1, k1, r1, b1⟩ := h 1 (by omega)
  obtain ⟨p2, n2, c2, e2, l2, k2, r2, b2⟩ := h 2 (by omega)
  obtain ⟨p3, n3, c3, e3, l3, k3, r3, b3⟩ := h 3 (by omega)
  rw [e0, e1, e2, e3] at HHAS ⊢
  have H0 := Lib.hid (fun u (hb : Below w.heap.size w u) => rwout_any (c := c0) l0 (by have := hn 0 (by omega); omega) (r0.below hb) x)
  have H1 := Lib.hid (fun u (hb : Below w.heap.size w u) => rwout_any (c := c1) l1 (by have := hn 1 (by omega); omega) (r1.below hb) x)
  have HLL := Lib.hid (show f 0 = .slice p0 n0 c0 ∧ f 1 = .slice p1 n1 c1 ∧ f 2 = .slice p2 n2 c2 ∧ f 3 = .slice p3 n3 c3 from ⟨e0, e1, e2, e3⟩)
  generalize decide (x ∈ L 0 ∨ x ∈ L 1) = is at *
  have hb : Below w.heap.size w ((w.alloc (.cells #[.int .i64 (s : Int), .slice p0 n0 c0, .slice p1 n1 c1, .slice p2 n2 c2, .slice p3 n3 c3, .int .i64 t] 97)).alloc (.cells #[.int .i64 0, .slice none 0 0, .slice none 0 0, .slice none 0 0, .slice none 0 0, .int .i64 0] 97)) := by go_grown
  have hx0 : ((w.alloc (.cells #[.int .i64 (s : Int), .slice p0 n0 c0, .slice p1 n1 c1, .slice p2 n2 c2, .slice p3 n3 c3, .int .i64 t] 97)).alloc (.cells #[.int .i64 0, .slice none 0 0, .slice none 0 0, .slice none 0 0, .slice none 0 0, .int .i64 0] 97)).heap[w.heap.size]? = some (.cells #[.int .i64 (s : Int), .slice p0 n0 c0, .slice p1 n1 c1, .slice p2 n2 c2, .slice p3 n3 c3, .int .i64 t] 97 (0, 0)) := by
    have q1 := (MapKept.heap_alloc w (.cells #[.int .i64 (s : Int), .slice p0 n0 c0, .slice p1 n1 c1, .slice p2 n2 c2, .slice p3 n3 c3, .int .i64 t] 97)).1
    exact ((MapKept.heap_alloc (w.alloc (.cells #[.int .i64 (s : Int), .slice p0 n0 c0, .slice p1 n1 c1, .slice p2 n2 c2, .slice p3 n3 c3, .int .i64 t] 97)) (.cells #[.int .i64 0, .slice none 0 0, .slice none 0 0, .slice none 0 0, .slice none 0 0, .int .i64 0] 97)).2 _ (by simp)).trans q1
  have hx1 : ((w.alloc (.cells #[.int .i64 (s : Int), .slice p0 n0 c0, .slice p1 n1 c1, .slice p2 n2 c2, .slice p3 n3 c3, .int .i64 t] 97)).alloc (.cells #[.int .i64 0, .slice none 0 0, .slice none 0 0, .slice none 0 0, .slice none 0 0, .int .i64 0] 97)).heap[w.heap.size + 1]? = some (.cells #[.int .i64 0, .slice none 0 0, .slice none 0 0, .slice none 0 0, .slice none 0 0, .int .i64 0] 97 (0, 0)) := by
    have q1 := (MapKept.heap_alloc (w.alloc (.cells #[.int .i64 (s : Int), .slice p0 n0 c0, .slice p1 n1 c1, .slice p2 n2 c2, .slice p3 n3 c3, .int .i64 t] 97)) (.cells #[.int .i64 0, .slice none 0 0, .slice none 0 0, .slice none 0 0, .slice none 0 0, .int .i64 0] 97)).1
    rwa [World.size_alloc] at q1
  clear h hn e0 e1 e2 e3 l0 l1 l2 l3 k0 k1 k2 k3 r0 r1 r2 r3 b0 b1 b2 b3
  go_enter Try.func122, Try.ntmps122
  go_upto_region 1 with fail
  generalize (w.alloc (.cells #[.int .i64 (s : Int), .slice p0 n0 c0, .slice p1 n1 c1, .slice p2 n2 c2, .slice p3 n3 c3, .int .i64 t] 97)).alloc (.cells #[.int .i64 0, .slice none 0 0, .slice none 0 0, .slice none 0 0, .slice none 0 0, .int .i64 0] 97) = w3 at *
  obtain ⟨d0, d1, d2, d3, d4, d5, df⟩ : w3.cell? ⟨w.heap.size, 0, none⟩ = some (.int .i64 (s : Int)) ∧ w3.cell? ⟨w.heap.size, 1, none⟩ = some (.slice p0 n0 c0) ∧ w3.cell? ⟨w.heap.size, 2, none⟩ = some (.slice p1 n1 c1) ∧ w3.cell? ⟨w.heap.size, 3, none⟩ = some (.slice p2 n2 c2) ∧ w3.cell? ⟨w.heap.size, 4, none⟩ = some (.slice p3 n3 c3) ∧ w3.cell? ⟨w.heap.size, 5, none⟩ = some (.int .i64 t) ∧ ∀ j, w3.frozen? ⟨w.heap.size, j, none⟩ = false := by refine ⟨?_, ?_, ?_, ?_, ?_, ?_, fun j => ?_⟩ <;> simp [World.cell?, World.frozen?, hx0]
  have HX := Lib.hid (show w3.heap[w.heap.size]? = some (.cells #[.int .i64 (s : Int), .slice p0 n0 c0, .slice p1 n1 c1, .slice p2 n2 c2, .slice p3 n3 c3, .int .i64 t] 97 (0, 0)) ∧ w3.heap[w.heap.size + 1]? = some (.cells #[.int .i64 0, .slice none 0 0, .slice none 0 0, .slice none 0 0, .slice none 0 0, .int .i64 0] 97 (0, 0)) ∧ Below w.heap.size w w3 ∧ w.heap.size + 1 < w3.heap.size from ⟨hx0, hx1, hb, (Array.getElem?_eq_some_iff.1 hx1).1⟩)
  clear hx0 hx1 hb
  go_wp2_with fail
  refine (HHAS.out _ HX.out.2.2.1).mono ?_
  rintro e w4 ⟨rfl, b4⟩
  have H4 := Lib.hid (show w4.heap[w.heap.size]? = some (.cells #[.int .i64 (s : Int), .slice p0 n0 c0, .slice p1 n1 c1, .slice p2 n2 c2, .slice p3 n3 c3, .int .i64 t] 97 (0, 0)) ∧ w4.heap[w.heap.size + 1]? = some (.cells #[.int .i64 0, .slice none 0 0, .slice none 0 0, .slice none 0 0, .slice none 0 0, .int .i64 0] 97 (0, 0)) ∧ Below w.heap.size w w4 ∧ w.heap.size + 1 < w4.heap.size from ⟨(b4.block _ (by have := HX.out; omega)).trans HX.out.1, (b4.block _ (by have := HX.out; omega)).trans HX.out.2.1, tr HX.out.2.2.1 b4, by have := HX.out; have := b4.size; omega⟩)
  clear d0 d1 d2 d3 d4 d5 df b4 HX
  go_upto_region 2 with fail
  have B4 := Lib.hid (show Below w.heap.size w w4.drew from tr H4.out.2.2.1 (by go_grown))
  obtain ⟨d0, d1, d2, d3, d4, d5, df⟩ : w4.cell? ⟨w.heap.size, 0, none⟩ = some (.int .i64 (s : Int)) ∧ w4.cell? ⟨w.heap.size, 1, none⟩ = some (.slice p0 n0 c0) ∧ w4.cell? ⟨w.heap.size, 2, none⟩ = some (.slice p1 n1 c1) ∧ w4.cell? ⟨w.heap.size, 3, none⟩ = some (.slice p2 n2 c2) ∧ w4.cell? ⟨w.heap.size, 4, none⟩ = some (.slice p3 n3 c3) ∧ w4.cell? ⟨w.heap.size, 5, none⟩ = some (.int .i64 t) ∧ ∀ j, w4.frozen? ⟨w.heap.size, j, none⟩ = false := by refine ⟨?_, ?_, ?_, ?_, ?_, ?_, fun j => ?_⟩ <;> simp [World.cell?, World.frozen?, H4.out.1]
  have HD := Lib.hid (show w4.drew.heap[w.heap.size]? = _ ∧ w4.drew.heap[w.heap.size + 1]? = _ ∧ w.heap.size + 1 < w4.drew.heap.size from ⟨H4.out.1, H4.out.2.1, H4.out.2.2.2⟩)
  apply region_state (R := fun a u => ∃ v10 v11 v12 v13 v14 v15 v16 v17 v18 v19 q0 m0 k0 q1 m1 k1, a = { tmps := #[.agg #[.int .i64 (s : Int), .slice p0 n0 c0, .slice p1 n1 c1, .slice p2 n2 c2, .slice p3 n3 c3, .int .i64 t], .int .u32 (x : Int), .pointer (some ⟨w.heap.size, 0, none⟩), undef, .pointer (some ⟨w.heap.size + 1, 0, none⟩), .bool false, .bool is, .agg #[.int .i64 (s : Int), .slice p0 n0 c0, .slice p1 n1 c1, .slice p2 n2 c2, .slice p3 n3 c3, .int .i64 t], .int .u32 (x : Int), .bool is, v10, v11, v12, v13, v14, v15, v16, v17, v18, v19, undef, undef], defers := [] } ∧ DQ w u s t L x p2 n2 c2 p3 n3 c3 q0 m0 k0 q1 m1 k1)
  case first =>
    go_region_with
      (first
        | (go_at_call 142
           with_reducible refine (H0.out _ B4.out).mono ?_
           rintro e u1 ⟨q0, m0, k0, rfl, R0, f0, b1⟩
           have g1 : u1.heap[w.heap.size]? = _ := (b1.block _ (by have := HD.out.2.2; omega)).trans HD.out.1
           have i1 := (b1.block (w.heap.size + 1) HD.out.2.2).trans HD.out.2.1
           have B1 := Lib.hid (tr B4.out b1)
           have s1 : w.heap.size + 1 < u1.heap.size := by have := HD.out.2.2; have := b1.size; omega
           have P0 := Lib.hid (show ∀ y, q0 = some y → w.heap.size + 1 < y.block from fun y hy => by have := f0 y hy; have := HD.out.2.2; omega)
           have e1 : u1.cell? ⟨w.heap.size, 1, none⟩ = some (.slice p0 n0 c0) := by simp [World.cell?, g1]
           have e2 : u1.cell? ⟨w.heap.size, 2, none⟩ = some (.slice p1 n1 c1) := by simp [World.cell?, g1]
           have ef : ∀ j, u1.frozen? ⟨w.heap.size, j, none⟩ = false := fun j => by simp [World.frozen?, g1])
        | (go_at_call 142
           with_reducible refine (H1.out _ B1.out).mono ?_
           rintro e u2 ⟨q1, m1, k1, rfl, R1, f1, b2⟩
           have E2 := Lib.hid (dq_both g1 i1 R0 P0.out R1 f1 b2 B1.out s1)
           have g2 := E2.out.1
           have h1 : u2.cell? ⟨w.heap.size, 1, none⟩ = some (.slice p0 n0 c0) := by simp [World.cell?, g2]
           have h2 : u2.cell? ⟨w.heap.size, 2, none⟩ = some (.slice p1 n1 c1) := by simp [World.cell?, g2]
           have hf : ∀ j, u2.frozen? ⟨w.heap.size, j, none⟩ = false := fun j => by simp [World.frozen?, g2])
        | (go_at_call 142
           with_reducible refine (H1.out _ (B1.out.setCell (p := ⟨w.heap.size, 1, none⟩) (Nat.le_refl _) _)).mono ?_
           rintro e u2 ⟨q1, m1, k1, rfl, R1, f1, b2⟩
           have E2 := Lib.hid (dq_one g1 i1 R0 P0.out R1 f1 b2 B1.out s1)
           have g2 := E2.out.1
           have h2 : u2.cell? ⟨w.heap.size, 2, none⟩ = some (.slice p1 n1 c1) := by simp [World.cell?, g2]
           have hf : ∀ j, u2.frozen? ⟨w.heap.size, j, none⟩ = false := fun j => by simp [World.frozen?, g2])
        | fail)
    all_goals
      dsimp only [midQ]
      first
      | exact ⟨_, _, _, _, _, _, _, _, _, _, _, _, _, _, _, _, rfl, heap_set (j := 2) (heap_set (j := 1) E2.out.1 _) _, dq_set 2 _ (dq_set 1 _ E2.out.2)⟩
      | exact ⟨_, _, _, _, _, _, _, _, _, _, _, _, _, _, _, _, rfl, heap_set (j := 2) E2.out.1 _, dq_set 2 _ E2.out.2⟩
      | exact ⟨_, _, _, _, _, _, _, _, _, _, _, _, _, _, _, _, rfl, heap_set (j := 1) (heap_set (j := 2) E2.out.1 _) _, dq_set 1 _ (dq_set 2 _ E2.out.2)⟩
  case rest =>
    rintro a u ⟨v10, v11, v12, v13, v14, v15, v16, v17, v18, v19, q0, m0, k0, q1, m1, k1, rfl, hdq⟩
    have DD := Lib.hid hdq
    clear hdq d0 d1 d2 d3 d4 d5 df B4 HD H0 H1 HHAS H4
    obtain ⟨d0, d1, d2, d3, d4, d5, df⟩ : u.cell? ⟨w.heap.size, 0, none⟩ = some (.int .i64 (s : Int)) ∧ u.cell? ⟨w.heap.size, 1, none⟩ = some (.slice q0 m0 k0) ∧ u.cell? ⟨w.heap.size, 2, none⟩ = some (.slice q1 m1 k1) ∧ u.cell? ⟨w.heap.size, 3, none⟩ = some (.slice p2 n2 c2) ∧ u.cell? ⟨w.heap.size, 4, none⟩ = some (.slice p3 n3 c3) ∧ u.cell? ⟨w.heap.size, 5, none⟩ = some (.int .i64 t) ∧ ∀ j, u.frozen? ⟨w.heap.size, j, none⟩ = false := by refine ⟨?_, ?_, ?_, ?_, ?_, ?_, fun j => ?_⟩ <;> simp [World.cell?, World.frozen?, DD.out.1]
    obtain ⟨m0', m1', m2', m3', m4', m5', mf⟩ : u.cell? ⟨w.heap.size + 1, 0, none⟩ = some (.int .i64 0) ∧ u.cell? ⟨w.heap.size + 1, 1, none⟩ = some (.slice none 0 0) ∧ u.cell? ⟨w.heap.size + 1, 2, none⟩ = some (.slice none 0 0) ∧ u.cell? ⟨w.heap.size + 1, 3, none⟩ = some (.slice none 0 0) ∧ u.cell? ⟨w.heap.size + 1, 4, none⟩ = some (.slice none 0 0) ∧ u.cell? ⟨w.heap.size + 1, 5, none⟩ = some (.int .i64 0) ∧ ∀ j, u.frozen? ⟨w.heap.size + 1, j, none⟩ = false := by refine ⟨?_, ?_, ?_, ?_, ?_, ?_, fun j => ?_⟩ <;> simp [World.cell?, World.frozen?, DD.out.2.1]
    go_wp2_with fail
    obtain ⟨wf, hwf, ⟨hy, hk⟩, hb9⟩ : ∃ wf, wf = ((((((u.setCell ⟨w.heap.size + 1, 0, none⟩ (.int .i64 (s : Int))).setCell ⟨w.heap.size + 1, 1, none⟩ (.slice q0 m0 k0)).setCell ⟨w.heap.size + 1, 2, none⟩ (.slice q1 m1 k1)).setCell ⟨w.heap.size + 1, 3, none⟩ (.slice p2 n2 c2)).setCell ⟨w.heap.size + 1, 4, none⟩ (.slice p3 n3 c3)).setCell ⟨w.heap.size + 1, 5, none⟩ (.int .i64 t)) ∧ (wf.heap[w.heap.size + 1]? = some (.cells #[.int .i64 (s : Int), .slice q0 m0 k0, .slice q1 m1 k1, .slice p2 n2 c2, .slice p3 n3 c3, .int .i64 t] 97 (0, 0)) ∧ Kp (fun j => j = w.heap.size + 1) u wf) ∧ Below w.heap.size w wf :=
      ⟨_, rfl, sset DD.out.2.1, ((((((DD.out.2.2.2.2.2.2).setCell (p := ⟨w.heap.size + 1, 0, none⟩) (Nat.le_succ _) _).setCell (p := ⟨w.heap.size + 1, 1, none⟩) (Nat.le_succ _) _).setCell (p := ⟨w.heap.size + 1, 2, none⟩) (Nat.le_succ _) _).setCell (p := ⟨w.heap.size + 1, 3, none⟩) (Nat.le_succ _) _).setCell (p := ⟨w.heap.size + 1, 4, none⟩) (Nat.le_succ _) _).setCell (p := ⟨w.heap.size + 1, 5, none⟩) (Nat.le_succ _) _⟩
    rw [← hwf]
    clear hwf
    obtain ⟨z0, z1, z2, z3, z4, z5⟩ : wf.cell? ⟨w.heap.size + 1, 0, none⟩ = some (.int .i64 (s : Int)) ∧ wf.cell? ⟨w.heap.size + 1, 1, none⟩ = some (.slice q0 m0 k0) ∧ wf.cell? ⟨w.heap.size + 1, 2, none⟩ = some (.slice q1 m1 k1) ∧ wf.cell? ⟨w.heap.size + 1, 3, none⟩ = some (.slice p2 n2 c2) ∧ wf.cell? ⟨w.heap.size + 1, 4, none⟩ = some (.slice p3 n3 c3) ∧ wf.cell? ⟨w.heap.size + 1, 5, none⟩ = some (.int .i64 t) := by refine ⟨?_, ?_, ?_, ?_, ?_, ?_⟩ <;> simp [World.cell?, hy]
    refine bodyPost_ret (v := .tuple #[.agg #[.int .i64 (s : Int), .slice q0 m0 k0, .slice q1 m1 k1, .slice p2 n2 c2, .slice p3 n3 c3, .int .i64 t], .bool is]) (by simp [results, Try.results122, go_sem, z0, z1, z2, z3, z4, z5]) rfl ⟨fun j => if j = 0 then .slice q0 m0 k0 else if j = 1 then .slice q1 m1 k1 else if j = 2 then .slice p2 n2 c2 else .slice p3 n3 c3, rfl, ?_, ?_, hb9⟩
    case refine_2 =>
      intro i hi
      have hi4 : i = 0 ∨ i = 1 ∨ i = 2 ∨ i = 3 := by omega
      rcases hi4 with rfl | rfl | rfl | rfl
      · exact .inr fun p' n' c' y e hy => by
          change (Value.slice q0 m0 k0 : Value) = _ at e
          cases e; have := DD.out.2.2.2.1 y hy; omega
      · exact .inr fun p' n' c' y e hy => by
          change (Value.slice q1 m1 k1 : Value) = _ at e
          cases e; have := DD.out.2.2.2.2.2.1 y hy; omega
      · exact .inl HLL.out.2.2.1.symm
      · exact .inl HLL.out.2.2.2.symm
    have T := DD.out.2.2
    have R0 := T.1.kp hk fun p' n' c' e' y hy => by cases e'; have := T.2.1 y hy; omega
    have R1 := T.2.2.1.kp hk fun p' n' c' e' y hy => by cases e'; have := T.2.2.2.1 y hy; omega
    intro i hi
    have hi4 : i = 0 ∨ i = 1 ∨ i = 2 ∨ i = 3 := by omega
    rcases hi4 with rfl | rfl | rfl | rfl
    · exact R0
    · exact R1
    · have R2 := HRS.out 2 (by omega)
      rw [HLL.out.2.2.1] at R2
      exact R2.below hb9
    · have R2 := HRS.out 3 (by omega)
      rw [HLL.out.2.2.2] at R2
      exact R2.below hb9
end Go.Proofs.Ytggimkfepcgaoaa.Arc
end
section
namespace Go.Proofs.Ytggimkfepcgaoaa.Arc
open Go Go.RowKit Kit Go.Maps Lnk Gho
/-- the frame of Use, called at w: the cache, the result, the result's turn, the turn -/
structure Uf (w u : World) (s : Nat) (t : Int) (L : Nat → List Nat) (f : Nat → Value) (x0 x1 x2 : Value) : Prop where
  a : u.heap[w.heap.size]? = some (.cells #[.int .i64 (s : Int), f 0, f 1, f 2, f 3, .int .i64 t] 97 (0, 0))
  b : u.heap[w.heap.size + 1]? = some (.cells #[.int .i64 0, .slice none 0 0, .slice none 0 0, .slice none 0 0, .slice none 0 0, .int .i64 0] 97 (0, 0))
  c : u.heap[w.heap.size + 1 + 1]? = some (.cells #[.bool false, .bool false, .int .u32 0] 110 (0, 0))
  d : u.heap[w.heap.size + 1 + 1 + 1]? = some (.cells #[x0, x1, x2] 110 (0, 0))
  r : Rs u L f
  o : ∀ i, i < 4 → ∀ p n c y, f i = .slice p n c → p = some y → y.block < w.heap.size ∨ w.heap.size + 3 < y.block
  w' : Below w.heap.size w u
section
variable {w u u' : World} {s : Nat} {t : Int} {L : Nat → List Nat} {f : Nat → Value} {x0 x1 x2 : Value}
theorem Uf.lt (h : Uf w u s t L f x0 x1 x2) : w.heap.size + 3 < u.heap.size := (Array.getElem?_eq_some_iff.1 h.d).1
theorem Uf.call (h : Uf w u s t L f x0 x1 x2) (b : Below u.heap.size u u') : Uf w u' s t L f x0 x1 x2 := by
  have hl := h.lt
  exact ⟨(b.block _ (by omega)).trans h.a, (b.block _ (by omega)).trans h.b, (b.block _ (by omega)).trans h.c, (b.block _ (by omega)).trans h.d, h.r.below b, h.o, tr h.w' b⟩
theorem Uf.row (h : Uf w u s t L f x0 x1 x2) {j G : Nat} (hj : w.heap.size ≤ j) (hj' : j ≤ w.heap.size + 3) (e : Value) : Rs (u.setCell ⟨j, G, none⟩ e) L f := fun i hi =>
  (h.r i hi).kp (kp_set (u := u) (p := j) (j := G) (d := e)) fun p n c hf y hy => by have := h.o i hi p n c y hf hy; omega
/-- the target is stored -/
theorem Uf.tgt (h : Uf w u s t L f x0 x1 x2) (t' : Int) : Uf w (u.setCell ⟨w.heap.size, 5, none⟩ (.int .i64 t')) s t' L f x0 x1 x2 := by
  have hl := h.lt
  have k := kp_set (u := u) (p := w.heap.size) (j := 5) (d := .int .i64 t')
  exact ⟨heap_set (j := 5) h.a _, (k.block _ (by omega) (by omega)).trans h.b, (k.block _ (by omega) (by omega)).trans h.c, (k.block _ (by omega) (by omega)).trans h.d, h.row (Nat.le_refl _) (by omega) _, h.o, h.w'.setCell (p := ⟨w.heap.size, 5, none⟩) (Nat.le_refl _) _⟩
/-- a list is stored -/
theorem Uf.put (h : Uf w u s t L f x0 x1 x2) {i : Nat} (hi : i < 4) {l : List Nat} {q : Option Addr} {m k : Nat} (hl : Lv u l (.slice q m k)) (hq : ∀ y, q = some y → w.heap.size + 3 < y.block) : Uf w (u.setCell ⟨w.heap.size, 1 + i, none⟩ (.slice q m k)) s t (upd L i l) (upd' f i (.slice q m k)) x0 x1 x2 := by
  have hs := h.lt
  have kk := kp_set (u := u) (p := w.heap.size) (j := 1 + i) (d := .slice q m k)
  refine ⟨?_, (kk.block _ (by omega) (by omega)).trans h.b, (kk.block _ (by omega) (by omega)).trans h.c, (kk.block _ (by omega) (by omega)).trans h.d, fun j hj => ?_, fun j hj p n c y hf hy => ?_, h.w'.setCell (p := ⟨w.heap.size, 1 + i, none⟩) (Nat.le_refl _) _⟩
  · have hi4 : i = 0 ∨ i = 1 ∨ i = 2 ∨ i = 3 := by omega
    rcases hi4 with rfl | rfl | rfl | rfl
    · exact heap_set (j := 1) h.a _
    · exact heap_set (j := 2) h.a _
    · exact heap_set (j := 3) h.a _
    · exact heap_set (j := 4) h.a _
  · by_cases hji : j = i
    · subst hji
      rw [show upd L j l j = _ from if_pos rfl, show upd' f j (.slice q m k) j = _ from if_pos rfl]
      exact hl.kp kk fun p' n' c' e' y hy => by cases e'; have := hq y hy; omega
    · rw [show upd L i l j = _ from if_neg hji, show upd' f i (.slice q m k) j = _ from if_neg hji]
      exact h.row (Nat.le_refl _) (by omega) _ j hj
  · by_cases hji : j = i
    · rw [show upd' f i (.slice q m k) j = _ from if_pos hji] at hf
      cases hf
      exact .inr (hq y hy)
    · rw [show upd' f i (.slice q m k) j = _ from if_neg hji] at hf
      exact h.o j hj p n c y hf hy
/-- the whole cache is stored -/
theorem Uf.all (h : Uf w u s t L f x0 x1 x2) {L' : Nat → List Nat} {f' : Nat → Value} (t' : Int) (r : Rs u L' f') (o : ∀ i, i < 4 → ∀ p n c y, f' i = .slice p n c → p = some y → y.block < w.heap.size ∨ w.heap.size + 3 < y.block) :
    Uf w ((((((u.setCell ⟨w.heap.size, 0, none⟩ (.int .i64 (s : Int))).setCell ⟨w.heap.size, 1, none⟩ (f' 0)).setCell ⟨w.heap.size, 2, none⟩ (f' 1)).setCell ⟨w.heap.size, 3, none⟩ (f' 2)).setCell ⟨w.heap.size, 4, none⟩ (f' 3)).setCell ⟨w.heap.size, 5, none⟩ (.int .i64 t')) s t' L' f' x0 x1 x2 := by
  have hs := h.lt
  obtain ⟨e, kk⟩ := sset (d0 := .int .i64 (s : Int)) (d1 := f' 0) (d2 := f' 1) (d3 := f' 2) (d4 := f' 3) (d5 := .int .i64 t') h.a
  exact ⟨e, (kk.block _ (by omega) (by omega)).trans h.b, (kk.block _ (by omega) (by omega)).trans h.c, (kk.block _ (by omega) (by omega)).trans h.d, fun i hi => (r i hi).kp kk fun p n c hf y hy => by have := o i hi p n c y hf hy; omega, o, ((((((h.w').setCell (p := ⟨w.heap.size, 0, none⟩) (Nat.le_refl _) _).setCell (p := ⟨w.heap.size, 1, none⟩) (Nat.le_refl _) _).setCell (p := ⟨w.heap.size, 2, none⟩) (Nat.le_refl _) _).setCell (p := ⟨w.heap.size, 3, none⟩) (Nat.le_refl _) _).setCell (p := ⟨w.heap.size, 4, none⟩) (Nat.le_refl _) _).setCell (p := ⟨w.heap.size, 5, none⟩) (Nat.le_refl _) _⟩
/-- the turn is stored -/
theorem Uf.turn (h : Uf w u s t L f x0 x1 x2) (y0 y1 y2 : Value) : Uf w (((u.setCell ⟨w.heap.size + 1 + 1 + 1, 0, none⟩ y0).setCell ⟨w.heap.size + 1 + 1 + 1, 1, none⟩ y1).setCell ⟨w.heap.size + 1 + 1 + 1, 2, none⟩ y2) s t L f y0 y1 y2 := by
  have hs := h.lt
  obtain ⟨e, kk⟩ := tset (d0 := y0) (d1 := y1) (d2 := y2) h.d
  exact ⟨(kk.block _ (by omega) (by omega)).trans h.a, (kk.block _ (by omega) (by omega)).trans h.b, (kk.block _ (by omega) (by omega)).trans h.c, e, fun i hi => (h.r i hi).kp kk fun p n c hf y hy => by have := h.o i hi p n c y hf hy; omega, h.o, (((h.w').setCell (p := ⟨w.heap.size + 1 + 1 + 1, 0, none⟩) (by simp <;> omega) _).setCell (p := ⟨w.heap.size + 1 + 1 + 1, 1, none⟩) (by simp <;> omega) _).setCell (p := ⟨w.heap.size + 1 + 1 + 1, 2, none⟩) (by simp <;> omega) _⟩
/-- new rows keep off the frame -/
theorem Uf.off (h : Uf w u s t L f x0 x1 x2) {f' : Nat → Value} (n : Nf u f f') : ∀ i, i < 4 → ∀ p n c y, f' i = .slice p n c → p = some y → y.block < w.heap.size ∨ w.heap.size + 3 < y.block := fun i hi p m c y hf hy => by
  have hs := h.lt
  rcases n i hi with e | e
  · exact h.o i hi p m c y (e ▸ hf) hy
  · exact .inr (Nat.lt_of_lt_of_le hs (e p m c y hf hy))
/-- since the call: every list's row is the old one, or new -/
theorem Uf.cells (h : Uf w u s t L f x0 x1 x2) : u.cell? ⟨w.heap.size, 0, none⟩ = some (.int .i64 (s : Int)) ∧ u.cell? ⟨w.heap.size, 1, none⟩ = some (f 0) ∧ u.cell? ⟨w.heap.size, 2, none⟩ = some (f 1) ∧ u.cell? ⟨w.heap.size, 3, none⟩ = some (f 2) ∧ u.cell? ⟨w.heap.size, 4, none⟩ = some (f 3) ∧ u.cell? ⟨w.heap.size, 5, none⟩ = some (.int .i64 t) ∧ ∀ j, u.frozen? ⟨w.heap.size, j, none⟩ = false := by refine ⟨?_, ?_, ?_, ?_, ?_, ?_, fun j => ?_⟩ <;> simp [World.cell?, World.frozen?, h.a]
theorem Uf.boxes (h : Uf w u s t L f x0 x1 x2) : u.cell? ⟨w.heap.size + 1, 0, none⟩ = some (.int .i64 0) ∧ u.cell? ⟨w.heap.size + 1, 1, none⟩ = some (.slice none 0 0) ∧ u.cell? ⟨w.heap.size + 1, 2, none⟩ = some (.slice none 0 0) ∧ u.cell? ⟨w.heap.size + 1, 3, none⟩ = some (.slice none 0 0) ∧ u.cell? ⟨w.heap.size + 1, 4, none⟩ = some (.slice none 0 0) ∧ u.cell? ⟨w.heap.size + 1, 5, none⟩ = some (.int .i64 0) ∧ ∀ j, u.frozen? ⟨w.heap.size + 1, j, none⟩ = false := by refine ⟨?_, ?_, ?_, ?_, ?_, ?_, fun j => ?_⟩ <;> simp [World.cell?, World.frozen?, h.b]
theorem Uf.turns (h : Uf w u s t L f x0 x1 x2) : (u.cell? ⟨w.heap.size + 1 + 1, 0, none⟩ = some (.bool false) ∧ u.cell? ⟨w.heap.size + 1 + 1, 1, none⟩ = some (.bool false) ∧ u.cell? ⟨w.heap.size + 1 + 1, 2, none⟩ = some (.int .u32 0) ∧ ∀ j, u.frozen? ⟨w.heap.size + 1 + 1, j, none⟩ = false) ∧ u.cell? ⟨w.heap.size + 1 + 1 + 1, 0, none⟩ = some x0 ∧ u.cell? ⟨w.heap.size + 1 + 1 + 1, 1, none⟩ = some x1 ∧ u.cell? ⟨w.heap.size + 1 + 1 + 1, 2, none⟩ = some x2 ∧ ∀ j, u.frozen? ⟨w.heap.size + 1 + 1 + 1, j, none⟩ = false := by refine ⟨⟨?_, ?_, ?_, fun j => ?_⟩, ?_, ?_, ?_, fun j => ?_⟩ <;> simp [World.cell?, World.frozen?, h.c, h.d]
/-- the two results are stored -/
theorem Uf.fin (h : Uf w u s t L f x0 x1 x2) (a0 a1 a2 a3 a4 a5 g0 g1 g2 : Value) :
    ∃ wf, wf = ((((((((u.setCell ⟨w.heap.size + 1, 0, none⟩ a0).setCell ⟨w.heap.size + 1, 1, none⟩ a1).setCell ⟨w.heap.size + 1, 2, none⟩ a2).setCell ⟨w.heap.size + 1, 3, none⟩ a3).setCell ⟨w.heap.size + 1, 4, none⟩ a4).setCell ⟨w.heap.size + 1, 5, none⟩ a5).setCell ⟨w.heap.size + 1 + 1, 0, none⟩ g0).setCell ⟨w.heap.size + 1 + 1, 1, none⟩ g1).setCell ⟨w.heap.size + 1 + 1, 2, none⟩ g2 ∧
      (wf.cell? ⟨w.heap.size + 1, 0, none⟩ = some a0 ∧ wf.cell? ⟨w.heap.size + 1, 1, none⟩ = some a1 ∧ wf.cell? ⟨w.heap.size + 1, 2, none⟩ = some a2 ∧ wf.cell? ⟨w.heap.size + 1, 3, none⟩ = some a3 ∧ wf.cell? ⟨w.heap.size + 1, 4, none⟩ = some a4 ∧ wf.cell? ⟨w.heap.size + 1, 5, none⟩ = some a5 ∧ wf.cell? ⟨w.heap.size + 1 + 1, 0, none⟩ = some g0 ∧ wf.cell? ⟨w.heap.size + 1 + 1, 1, none⟩ = some g1 ∧ wf.cell? ⟨w.heap.size + 1 + 1, 2, none⟩ = some g2) ∧
      Rs wf L f ∧ Below w.heap.size w wf := by
  have hs := h.lt
  refine ⟨_, rfl, ?_⟩
  obtain ⟨e1, k1⟩ := sset (d0 := a0) (d1 := a1) (d2 := a2) (d3 := a3) (d4 := a4) (d5 := a5) h.b
  have s1 := k1.size
  have B1 := ((((((h.w').setCell (p := ⟨w.heap.size + 1, 0, none⟩) (Nat.le_succ _) a0).setCell (p := ⟨w.heap.size + 1, 1, none⟩) (Nat.le_succ _) a1).setCell (p := ⟨w.heap.size + 1, 2, none⟩) (Nat.le_succ _) a2).setCell (p := ⟨w.heap.size + 1, 3, none⟩) (Nat.le_succ _) a3).setCell (p := ⟨w.heap.size + 1, 4, none⟩) (Nat.le_succ _) a4).setCell (p := ⟨w.heap.size + 1, 5, none⟩) (Nat.le_succ _) a5
  generalize (((((u.setCell ⟨w.heap.size + 1, 0, none⟩ a0).setCell ⟨w.heap.size + 1, 1, none⟩ a1).setCell ⟨w.heap.size + 1, 2, none⟩ a2).setCell ⟨w.heap.size + 1, 3, none⟩ a3).setCell ⟨w.heap.size + 1, 4, none⟩ a4).setCell ⟨w.heap.size + 1, 5, none⟩ a5 = v at *
  have c1 := (k1.block (w.heap.size + 1 + 1) (by omega) (by omega)).trans h.c
  obtain ⟨e2, k2⟩ := tset (d0 := g0) (d1 := g1) (d2 := g2) c1
  have B2 := ((B1.setCell (p := ⟨w.heap.size + 1 + 1, 0, none⟩) (Nat.le_add_right _ 2) g0).setCell (p := ⟨w.heap.size + 1 + 1, 1, none⟩) (Nat.le_add_right _ 2) g1).setCell (p := ⟨w.heap.size + 1 + 1, 2, none⟩) (Nat.le_add_right _ 2) g2
  generalize ((v.setCell ⟨w.heap.size + 1 + 1, 0, none⟩ g0).setCell ⟨w.heap.size + 1 + 1, 1, none⟩ g1).setCell ⟨w.heap.size + 1 + 1, 2, none⟩ g2 = v2 at *
  have e3 := (k2.block (w.heap.size + 1) (by omega) (by omega)).trans e1
  refine ⟨?_, fun i hi => ((h.r i hi).kp k1 fun p n c hf y hy => by have := h.o i hi p n c y hf hy; omega).kp k2 fun p n c hf y hy => by have := h.o i hi p n c y hf hy; omega, B2⟩
  refine ⟨?_, ?_, ?_, ?_, ?_, ?_, ?_, ?_, ?_⟩ <;> simp [World.cell?, e2, e3]
end
theorem Nf.refl {w : World} (f : Nat → Value) : Nf w f f := fun i _ => .inl rfl
theorem Nf.put {w : World} {f f' : Nat → Value} (h : Nf w f f') {i : Nat} {q : Option Addr} {m k : Nat} (hq : ∀ y, q = some y → w.heap.size ≤ y.block) : Nf w f (upd' f' i (.slice q m k)) := fun j hj => by
  by_cases hji : j = i
  · rw [show upd' f' i (.slice q m k) j = _ from if_pos hji]
    exact .inr fun p n c y e hy => by cases e; exact hq y hy
  · rw [show upd' f' i (.slice q m k) j = _ from if_neg hji]
    exact h j hj
theorem Nf.trans {w u : World} {f g k : Nat → Value} (h : Nf w f g) (h' : Nf u g k) (hs : w.heap.size ≤ u.heap.size) : Nf w f k := fun j hj => by
  rcases h' j hj with e | e
  · rcases h j hj with e' | e'
    · exact .inl (e.trans e')
    · exact .inr (e ▸ e')
  · exact .inr fun p n c y hy hp => Nat.le_trans hs (e p n c y hy hp)
end Go.Proofs.Ytggimkfepcgaoaa.Arc
end
section
namespace Go.Proofs.Ytggimkfepcgaoaa.Arc
open Go Go.RowKit Kit Go.Maps Lnk Gho
/-- the frame as Use begins -/
theorem Uf.begin {w : World} {s : Nat} {t : Int} {L : Nat → List Nat} {f : Nat → Value} (h : Rs w L f) :
    Uf w ((((w.alloc (.cells #[.int .i64 (s : Int), f 0, f 1, f 2, f 3, .int .i64 t] 97)).alloc (.cells #[.int .i64 0, .slice none 0 0, .slice none 0 0, .slice none 0 0, .slice none 0 0, .int .i64 0] 97)).alloc (.cells #[.bool false, .bool false, .int .u32 0] 110)).alloc (.cells #[.bool false, .bool false, .int .u32 0] 110)) s t L f (.bool false) (.bool false) (.int .u32 0) := by
  have ha := MapKept.heap_alloc w (.cells #[.int .i64 (s : Int), f 0, f 1, f 2, f 3, .int .i64 t] 97)
  have hs1 : (w.alloc (.cells #[.int .i64 (s : Int), f 0, f 1, f 2, f 3, .int .i64 t] 97)).heap.size = w.heap.size + 1 := by simp
  have h1 : Below w.heap.size w (w.alloc (.cells #[.int .i64 (s : Int), f 0, f 1, f 2, f 3, .int .i64 t] 97)) := by go_grown
  generalize w.alloc (.cells #[.int .i64 (s : Int), f 0, f 1, f 2, f 3, .int .i64 t] 97) = w1 at *
  have hb := MapKept.heap_alloc w1 (.cells #[.int .i64 0, .slice none 0 0, .slice none 0 0, .slice none 0 0, .slice none 0 0, .int .i64 0] 97)
  have hs2 : (w1.alloc (.cells #[.int .i64 0, .slice none 0 0, .slice none 0 0, .slice none 0 0, .slice none 0 0, .int .i64 0] 97)).heap.size = w1.heap.size + 1 := by simp
  have h2 : Below w1.heap.size w1 (w1.alloc (.cells #[.int .i64 0, .slice none 0 0, .slice none 0 0, .slice none 0 0, .slice none 0 0, .int .i64 0] 97)) := by go_grown
  generalize w1.alloc (.cells #[.int .i64 0, .slice none 0 0, .slice none 0 0, .slice none 0 0, .slice none 0 0, .int .i64 0] 97) = w2 at *
  have hc := MapKept.heap_alloc w2 (.cells #[.bool false, .bool false, .int .u32 0] 110)
  have hs3 : (w2.alloc (.cells #[.bool false, .bool false, .int .u32 0] 110)).heap.size = w2.heap.size + 1 := by simp
  have h3 : Below w2.heap.size w2 (w2.alloc (.cells #[.bool false, .bool false, .int .u32 0] 110)) := by go_grown
  generalize w2.alloc (.cells #[.bool false, .bool false, .int .u32 0] 110) = w3 at *
  have hd := MapKept.heap_alloc w3 (.cells #[.bool false, .bool false, .int .u32 0] 110)
  have h4 : Below w3.heap.size w3 (w3.alloc (.cells #[.bool false, .bool false, .int .u32 0] 110)) := by go_grown
  generalize w3.alloc (.cells #[.bool false, .bool false, .int .u32 0] 110) = w4 at *
  have B := tr (tr (tr h1 h2) h3) h4
  have d' := hd.1
  have c' := (h4.block _ (by omega)).trans hc.1
  have b' := (h4.block _ (by omega)).trans ((h3.block _ (by omega)).trans hb.1)
  have a' := (h4.block _ (by omega)).trans ((h3.block _ (by omega)).trans ((h2.block _ (by omega)).trans ha.1))
  rw [hs3, hs2, hs1] at d'
  rw [hs2, hs1] at c'
  rw [hs1] at b'
  exact ⟨a', b', c', d', h.below B, fun i hi p n c y hf hy => by
    obtain ⟨p', n', c'', e1, -, -, -, e2⟩ := h i hi
    rw [hf] at e1
    cases e1
    exact .inl (e2 y hy), B⟩
set_option maxRecDepth 100000 in
set_option maxHeartbeats 4000000 in
theorem ruse_hit {w : World} {s : Nat} {t : Int} {L : Nat → List Nat} {f : Nat → Value} (h : Rs w L f) (hn : ∀ i, i < 4 → (L i).length ≤ 100000) (x : Nat) (hx : x ∈ L 0 ∨ x ∈ L 1) :
    Calls Try.prog 121 #[rv29 s t f, .int .u32 (x : Int)] w fun e w' => ∃ f', e = .returned (.tuple #[rv29 s t f', tv true false 0]) ∧ Rs w' (upd (upd L 0 (wout (L 0) x)) 1 (x :: wout (L 1) x)) f' ∧ Nf w f f' ∧ Below w.heap.size w w' := by
  have HHAS := Lib.hid (fun u (hb : Rs u L f) => rhas29_any (s := s) (t := t) hb (fun i hi => Nat.le_trans (hn i hi) (by omega)) x)
  have HB := Lib.hid (Uf.begin (s := s) (t := t) h)
  rw [decide_eq_true hx] at HHAS
  obtain ⟨p0, n0, c0, e0, l0, k0, r0, b0⟩ := h 0 (by omega)
  obtain ⟨p1, n1, c1, e1, l1, k1, r1, b1⟩ := h 1 (by omega)
  obtain ⟨p2, n2, c2, e2, l2, k2, r2, b2⟩ := h 2 (by omega)
  obtain ⟨p3, n3, c3, e3, l3, k3, r3, b3⟩ := h 3 (by omega)
  have HLN := Lib.hid (Nat.le_trans (wout_len (L 1) x) (hn 1 (by omega)))
  have HLL := Lib.hid (show f 0 = .slice p0 n0 c0 ∧ f 1 = .slice p1 n1 c1 ∧ f 2 = .slice p2 n2 c2 ∧ f 3 = .slice p3 n3 c3 from ⟨e0, e1, e2, e3⟩)
  have H0 := Lib.hid (fun u (hb : Below w.heap.size w u) => rwout_any (c := c0) l0 (by have := hn 0 (by omega); omega) (r0.below hb) x)
  have H1 := Lib.hid (fun u (hb : Below w.heap.size w u) => rwout_any (c := c1) l1 (by have := hn 1 (by omega); omega) (r1.below hb) x)
  unfold rv29 at HHAS ⊢
  rw [e0, e1, e2, e3] at HHAS HB ⊢
  go_enter Try.func121, Try.ntmps121
  go_upto_region 2 with fail
  generalize (((w.alloc (.cells #[.int .i64 (s : Int), .slice p0 n0 c0, .slice p1 n1 c1, .slice p2 n2 c2, .slice p3 n3 c3, .int .i64 t] 97)).alloc (.cells #[.int .i64 0, .slice none 0 0, .slice none 0 0, .slice none 0 0, .slice none 0 0, .int .i64 0] 97)).alloc (.cells #[.bool false, .bool false, .int .u32 0] 110)).alloc (.cells #[.bool false, .bool false, .int .u32 0] 110) = w4 at *
  clear h hn hx e0 e1 e2 e3 l0 l1 l2 l3 k0 k1 k2 k3 r0 r1 r2 r3 b0 b1 b2 b3
  obtain ⟨d0, d1, d2, d3, d4, d5, df⟩ := HB.out.cells
  rw [HLL.out.1] at d1
  rw [HLL.out.2.1] at d2
  rw [HLL.out.2.2.1] at d3
  rw [HLL.out.2.2.2] at d4
  go_quiet (fail)
  have U5 := Lib.hid (HB.out.call (below_drewN (Below.refl w4.heap.size w4) nq))
  clear d0 d1 d2 d3 d4 d5 df HB
  generalize w4.drewN nq = w5 at *
  obtain ⟨d0, d1, d2, d3, d4, d5, df⟩ := U5.out.cells
  rw [HLL.out.1] at d1
  rw [HLL.out.2.1] at d2
  rw [HLL.out.2.2.1] at d3
  rw [HLL.out.2.2.2] at d4
  go_wp2_with fail
  refine (HHAS.out _ U5.out.r).mono ?_
  rintro e w6 ⟨rfl, b6⟩
  have U6 := Lib.hid (U5.out.call b6)
  clear d0 d1 d2 d3 d4 d5 df b6 U5 HHAS
  obtain ⟨d0, d1, d2, d3, d4, d5, df⟩ := U6.out.cells
  rw [HLL.out.1] at d1
  rw [HLL.out.2.1] at d2
  rw [HLL.out.2.2.1] at d3
  rw [HLL.out.2.2.2] at d4
  go_wp2_with fail
  refine (H0.out _ U6.out.w').mono ?_
  rintro e w7 ⟨q, m, k, rfl, R7, f7, b7⟩
  have P7 := Lib.hid (show ∀ y, q = some y → w.heap.size + 3 < y.block from fun y hy => Nat.lt_of_lt_of_le U6.out.lt (f7 y hy))
  have U7 := Lib.hid (U6.out.call b7)
  clear d0 d1 d2 d3 d4 d5 df b7 U6 H0 f7
  obtain ⟨d0, d1, d2, d3, d4, d5, df⟩ := U7.out.cells
  rw [HLL.out.1] at d1
  rw [HLL.out.2.1] at d2
  rw [HLL.out.2.2.1] at d3
  rw [HLL.out.2.2.2] at d4
  have U8 := Lib.hid (show Uf w (w7.setCell ⟨w.heap.size, 1, none⟩ (.slice q m k)) s t _ _ _ _ _ from U7.out.put (i := 0) (by omega) R7 P7.out)
  clear R7 U7
  go_upto_region 5 with fail
  clear d0 d1 d2 d3 d4 d5 df
  generalize w7.setCell ⟨w.heap.size, 1, none⟩ (.slice q m k) = w8 at *
  have C := U8.out.cells
  simp [upd', HLL.out.1, HLL.out.2.1, HLL.out.2.2.1, HLL.out.2.2.2] at C
  obtain ⟨d0, d1, d2, d3, d4, d5, df⟩ := C
  go_wp2_with fail
  refine (H1.out _ U8.out.w').mono ?_
  rintro e w9 ⟨q1, m1, k1, rfl, R9, f9, b9⟩
  have U9 := Lib.hid (U8.out.call b9)
  obtain ⟨_, _, _, hv, hl9, -, hr9, -⟩ := R9
  cases hv
  have HNW := Lib.hid (rnewest_any (c := k1) hl9 (by have := HLN.out; omega) hr9 x)
  have hl10 : (x :: wout (L 1) x).length = m1 + 1 := by rw [List.length_cons, hl9]
  clear d0 d1 d2 d3 d4 d5 df b9 U8 H1 f9 hl9 hr9
  have C := U9.out.cells
  simp [upd', HLL.out.1, HLL.out.2.1, HLL.out.2.2.1, HLL.out.2.2.2] at C
  obtain ⟨d0, d1, d2, d3, d4, d5, df⟩ := C
  go_wp2_with fail
  refine HNW.out.mono ?_
  rintro e w10 ⟨q2, k2, rfl, R10, b10⟩
  have P10 := Lib.hid (show ∀ y, q2 = some y → w.heap.size + 3 < y.block from fun y hy => by subst hy; have := U9.out.lt; have := (R10.lt y.block rfl).1; omega)
  have U10 := Lib.hid (U9.out.call b10)
  have U11 := Lib.hid (show Uf w (w10.setCell ⟨w.heap.size, 2, none⟩ (.slice q2 (m1 + 1) k2)) s t _ _ _ _ _ from U10.out.put (i := 1) (by omega) (Lv.of R10 hl10) P10.out)
  clear d0 d1 d2 d3 d4 d5 df b10 U9 HNW R10
  have C := U10.out.cells
  simp [upd', HLL.out.1, HLL.out.2.1, HLL.out.2.2.1, HLL.out.2.2.2] at C
  obtain ⟨d0, d1, d2, d3, d4, d5, df⟩ := C
  go_upto_region 6 with fail
  clear d0 d1 d2 d3 d4 d5 df U10
  generalize w10.setCell ⟨w.heap.size, 2, none⟩ (.slice q2 (m1 + 1) k2) = w11 at *
  have C := U11.out.cells
  simp [upd', HLL.out.1, HLL.out.2.1, HLL.out.2.2.1, HLL.out.2.2.2] at C
  obtain ⟨d0, d1, d2, d3, d4, d5, df⟩ := C
  obtain ⟨m0', m1', m2', m3', m4', m5', mf⟩ := U11.out.boxes
  obtain ⟨⟨y0, y1, y2, yf⟩, -⟩ := U11.out.turns
  go_wp2_with fail
  obtain ⟨wf, hwf, ⟨z0, z1, z2, z3, z4, z5, t0, t1, t2⟩, RF, BF⟩ := U11.out.fin (.int .i64 (s : Int)) (.slice q m k) (.slice q2 (m1 + 1) k2) (.slice p2 n2 c2) (.slice p3 n3 c3) (.int .i64 t) (.bool true) (.bool false) (.int .u32 0)
  rw [← hwf]
  clear hwf
  refine bodyPost_ret (v := .tuple #[.agg #[.int .i64 (s : Int), .slice q m k, .slice q2 (m1 + 1) k2, .slice p2 n2 c2, .slice p3 n3 c3, .int .i64 t], tv true false 0]) (by simp [results, Try.results121, go_sem, z0, z1, z2, z3, z4, z5, t0, t1, t2]) rfl ⟨_, ?_, RF, ((Nf.refl f).put fun y hy => by have := P7.out y hy; omega).put fun y hy => by have := P10.out y hy; omega, BF⟩
  simp [upd', HLL.out.2.2.1, HLL.out.2.2.2]
end Go.Proofs.Ytggimkfepcgaoaa.Arc
end
