/-
  Adaptive replacement (layer 29), the reference: room.
-/
import Derived.Test.YtggimkfepcgaoaaArqB
import Derived.Test.YtggimkfepcgaoaaArcC
import Derived.Deep.CutBlock
import Derived.Deep.DeepCutAuto
set_option linter.unusedVariables false
set_option linter.unusedSimpArgs false
namespace Go.Proofs.Ytggimkfepcgaoaa.Arc
open Go Go.RowKit Kit Go.Maps Lnk Gho
set_option maxRecDepth 100000 in
set_option maxHeartbeats 4000000 in
theorem rroom_free {w : World} {s : Nat} {t : Int} {L : Nat → List Nat} {f : Nat → Value} (h : Rs w L f) (hn : ∀ i, i < 4 → (L i).length ≤ 1000000) (found : Bool) (hf : (L 0).length + (L 1).length < s) :
    Calls Try.prog 150 #[rv29 s t f, .bool found] w fun e w' => e = .returned (.tuple #[rv29 s t f, tv false false 0]) ∧ Below w.heap.size w w' := by
  unfold rv29
  obtain ⟨p0, n0, c0, e0, l0, k0, r0, b0⟩ := h 0 (by omega)
  obtain ⟨p1, n1, c1, e1, l1, k1, r1, b1⟩ := h 1 (by omega)
  have h0 := hn 0 (by omega)
  have h1 := hn 1 (by omega)
  obtain ⟨p2, n2, c2, e2, l2, k2, r2, b2⟩ := h 2 (by omega)
  obtain ⟨p3, n3, c3, e3, l3, k3, r3, b3⟩ := h 3 (by omega)
  rw [e0, e1, e2, e3]
  rw [l0, l1] at hf
  rw [l0] at h0
  rw [l1] at h1
  have g1 := IntWalk.i64_in ((n0 : Int) + (n1 : Int)) (by omega)
  have g2 : (n0 : Int) + (n1 : Int) < (s : Int) := by omega
  clear h hn e0 l0 k0 r0 b0 e1 l1 k1 r1 b1 e2 l2 k2 r2 b2 e3 l3 k3 r3 b3 hf h0 h1
  go_enter Try.func150, Try.ntmps150
  go_wp2_with fail
  have hb : Below w.heap.size w (((w.alloc (.cells #[.int .i64 (s : Int), .slice p0 n0 c0, .slice p1 n1 c1, .slice p2 n2 c2, .slice p3 n3 c3, .int .i64 t] 97)).alloc (.cells #[.int .i64 (s : Int), .slice p0 n0 c0, .slice p1 n1 c1, .slice p2 n2 c2, .slice p3 n3 c3, .int .i64 t] 97)).alloc (.cells #[.bool false, .bool false, .int .u32 0] 110)) := by go_grown
  have hx1 : (((w.alloc (.cells #[.int .i64 (s : Int), .slice p0 n0 c0, .slice p1 n1 c1, .slice p2 n2 c2, .slice p3 n3 c3, .int .i64 t] 97)).alloc (.cells #[.int .i64 (s : Int), .slice p0 n0 c0, .slice p1 n1 c1, .slice p2 n2 c2, .slice p3 n3 c3, .int .i64 t] 97)).alloc (.cells #[.bool false, .bool false, .int .u32 0] 110)).heap[w.heap.size + 1]? = some (.cells #[.int .i64 (s : Int), .slice p0 n0 c0, .slice p1 n1 c1, .slice p2 n2 c2, .slice p3 n3 c3, .int .i64 t] 97 (0, 0)) := by
    have q1 := (MapKept.heap_alloc (w.alloc (.cells #[.int .i64 (s : Int), .slice p0 n0 c0, .slice p1 n1 c1, .slice p2 n2 c2, .slice p3 n3 c3, .int .i64 t] 97)) (.cells #[.int .i64 (s : Int), .slice p0 n0 c0, .slice p1 n1 c1, .slice p2 n2 c2, .slice p3 n3 c3, .int .i64 t] 97)).1
    rw [World.size_alloc] at q1
    exact ((MapKept.heap_alloc ((w.alloc (.cells #[.int .i64 (s : Int), .slice p0 n0 c0, .slice p1 n1 c1, .slice p2 n2 c2, .slice p3 n3 c3, .int .i64 t] 97)).alloc (.cells #[.int .i64 (s : Int), .slice p0 n0 c0, .slice p1 n1 c1, .slice p2 n2 c2, .slice p3 n3 c3, .int .i64 t] 97)) (.cells #[.bool false, .bool false, .int .u32 0] 110)).2 _ (by simp)).trans q1
  have hx2 : (((w.alloc (.cells #[.int .i64 (s : Int), .slice p0 n0 c0, .slice p1 n1 c1, .slice p2 n2 c2, .slice p3 n3 c3, .int .i64 t] 97)).alloc (.cells #[.int .i64 (s : Int), .slice p0 n0 c0, .slice p1 n1 c1, .slice p2 n2 c2, .slice p3 n3 c3, .int .i64 t] 97)).alloc (.cells #[.bool false, .bool false, .int .u32 0] 110)).heap[w.heap.size + 1 + 1]? = some (.cells #[.bool false, .bool false, .int .u32 0] 110 (0, 0)) := by
    have q1 := (MapKept.heap_alloc ((w.alloc (.cells #[.int .i64 (s : Int), .slice p0 n0 c0, .slice p1 n1 c1, .slice p2 n2 c2, .slice p3 n3 c3, .int .i64 t] 97)).alloc (.cells #[.int .i64 (s : Int), .slice p0 n0 c0, .slice p1 n1 c1, .slice p2 n2 c2, .slice p3 n3 c3, .int .i64 t] 97)) (.cells #[.bool false, .bool false, .int .u32 0] 110)).1
    rwa [World.size_alloc, World.size_alloc] at q1
  generalize ((w.alloc (.cells #[.int .i64 (s : Int), .slice p0 n0 c0, .slice p1 n1 c1, .slice p2 n2 c2, .slice p3 n3 c3, .int .i64 t] 97)).alloc (.cells #[.int .i64 (s : Int), .slice p0 n0 c0, .slice p1 n1 c1, .slice p2 n2 c2, .slice p3 n3 c3, .int .i64 t] 97)).alloc (.cells #[.bool false, .bool false, .int .u32 0] 110) = w9 at *
  obtain ⟨z0, z1, z2, z3, z4, z5⟩ : w9.cell? ⟨w.heap.size + 1, 0, none⟩ = some (.int .i64 (s : Int)) ∧ w9.cell? ⟨w.heap.size + 1, 1, none⟩ = some (.slice p0 n0 c0) ∧ w9.cell? ⟨w.heap.size + 1, 2, none⟩ = some (.slice p1 n1 c1) ∧ w9.cell? ⟨w.heap.size + 1, 3, none⟩ = some (.slice p2 n2 c2) ∧ w9.cell? ⟨w.heap.size + 1, 4, none⟩ = some (.slice p3 n3 c3) ∧ w9.cell? ⟨w.heap.size + 1, 5, none⟩ = some (.int .i64 t) := by refine ⟨?_, ?_, ?_, ?_, ?_, ?_⟩ <;> simp [World.cell?, hx1]
  obtain ⟨y0, y1, y2⟩ : w9.cell? ⟨w.heap.size + 1 + 1, 0, none⟩ = some (.bool false) ∧ w9.cell? ⟨w.heap.size + 1 + 1, 1, none⟩ = some (.bool false) ∧ w9.cell? ⟨w.heap.size + 1 + 1, 2, none⟩ = some (.int .u32 0) := by refine ⟨?_, ?_, ?_⟩ <;> simp [World.cell?, hx2]
  exact bodyPost_ret (v := .tuple #[.agg #[.int .i64 (s : Int), .slice p0 n0 c0, .slice p1 n1 c1, .slice p2 n2 c2, .slice p3 n3 c3, .int .i64 t], tv false false 0]) (by simp [results, Try.results150, go_sem, z0, z1, z2, z3, z4, z5, y0, y1, y2]) rfl ⟨rfl, hb⟩
/-- every list's row is the old one, or new since w -/
def Nf (w : World) (f f' : Nat → Value) : Prop := ∀ i, i < 4 → f' i = f i ∨ ∀ p n c y, f' i = .slice p n c → p = some y → w.heap.size ≤ y.block
/-- six stores into a box -/
theorem sset {u : World} {p : Nat} {c0 c1 c2 c3 c4 c5 d0 d1 d2 d3 d4 d5 : Value} {ty : TypeId} (h : u.heap[p]? = some (.cells #[c0, c1, c2, c3, c4, c5] ty (0, 0))) :
    ((((((u.setCell ⟨p, 0, none⟩ d0).setCell ⟨p, 1, none⟩ d1).setCell ⟨p, 2, none⟩ d2).setCell ⟨p, 3, none⟩ d3).setCell ⟨p, 4, none⟩ d4).setCell ⟨p, 5, none⟩ d5).heap[p]? = some (.cells #[d0, d1, d2, d3, d4, d5] ty (0, 0)) ∧ Kp (fun j => j = p) u ((((((u.setCell ⟨p, 0, none⟩ d0).setCell ⟨p, 1, none⟩ d1).setCell ⟨p, 2, none⟩ d2).setCell ⟨p, 3, none⟩ d3).setCell ⟨p, 4, none⟩ d4).setCell ⟨p, 5, none⟩ d5) := by
  refine ⟨heap_set (j := 5) (heap_set (j := 4) (heap_set (j := 3) (heap_set (j := 2) (heap_set (j := 1) (heap_set (j := 0) h d0) d1) d2) d3) d4) d5, ?_⟩
  have hb := ((((((Below.refl p u).setCell (p := ⟨p, 0, none⟩) (Nat.le_refl _) d0).setCell (p := ⟨p, 1, none⟩) (Nat.le_refl _) d1).setCell (p := ⟨p, 2, none⟩) (Nat.le_refl _) d2).setCell (p := ⟨p, 3, none⟩) (Nat.le_refl _) d3).setCell (p := ⟨p, 4, none⟩) (Nat.le_refl _) d4).setCell (p := ⟨p, 5, none⟩) (Nat.le_refl _) d5
  exact ⟨hb.os, hb.tape, hb.output, hb.size, fun j hj hn => by rw [Below.heap_setCell _ ⟨p, 5, none⟩ _ j hn, Below.heap_setCell _ ⟨p, 4, none⟩ _ j hn, Below.heap_setCell _ ⟨p, 3, none⟩ _ j hn, Below.heap_setCell _ ⟨p, 2, none⟩ _ j hn, Below.heap_setCell _ ⟨p, 1, none⟩ _ j hn, Below.heap_setCell _ ⟨p, 0, none⟩ _ j hn]⟩
theorem kp_set {u : World} {p j : Nat} {d : Value} : Kp (fun k => k = p) u (u.setCell ⟨p, j, none⟩ d) := by
  have hb := (Below.refl p u).setCell (p := ⟨p, j, none⟩) (Nat.le_refl _) d
  exact ⟨hb.os, hb.tape, hb.output, hb.size, fun k hk hn => Below.heap_setCell u ⟨p, j, none⟩ _ k hn⟩
theorem room_end {p G : Nat} {u : World} {e c0 c1 c2 c3 c4 c5 d0 d1 d2 d3 d4 d5 b0 b1 b2 g0 g1 g2 : Value} {ty : TypeId} (h1 : u.heap[p + 1]? = some (.cells #[c0, c1, c2, c3, c4, c5] ty (0, 0))) (h2 : u.heap[p + 1 + 1]? = some (.cells #[b0, b1, b2] 110 (0, 0))) :
    ∃ wf, wf = ((((((((((u.setCell ⟨p, G, none⟩ e).setCell ⟨p + 1, 0, none⟩ d0).setCell ⟨p + 1, 1, none⟩ d1).setCell ⟨p + 1, 2, none⟩ d2).setCell ⟨p + 1, 3, none⟩ d3).setCell ⟨p + 1, 4, none⟩ d4).setCell ⟨p + 1, 5, none⟩ d5).setCell ⟨p + 1 + 1, 0, none⟩ g0).setCell ⟨p + 1 + 1, 1, none⟩ g1).setCell ⟨p + 1 + 1, 2, none⟩ g2) ∧
      wf.heap[p + 1]? = some (.cells #[d0, d1, d2, d3, d4, d5] ty (0, 0)) ∧ wf.heap[p + 1 + 1]? = some (.cells #[g0, g1, g2] 110 (0, 0)) ∧ Kp (fun j => p ≤ j ∧ j < p + 3) u wf ∧ ∀ w, Below p w u → Below p w wf := by
  have l2 := (Array.getElem?_eq_some_iff.1 h2).1
  refine ⟨_, rfl, ?_⟩
  have k1 := kp_set (u := u) (p := p) (j := G) (d := e)
  have x1 := (k1.block (p + 1) (by omega) (by omega)).trans h1
  have x2 := (k1.block (p + 1 + 1) (by omega) (by omega)).trans h2
  have s1 := k1.size
  obtain ⟨y1, k2⟩ := sset (d0 := d0) (d1 := d1) (d2 := d2) (d3 := d3) (d4 := d4) (d5 := d5) x1
  have x3 := (k2.block (p + 1 + 1) (by omega) (by omega)).trans x2
  have s2 := k2.size
  obtain ⟨y2, k3⟩ := tset (d0 := g0) (d1 := g1) (d2 := g2) x3
  have s3 := k3.size
  refine ⟨(k3.block (p + 1) (by omega) (by omega)).trans y1, y2, ?_, fun w hb => ?_⟩
  · have hb := (((((((((((Below.refl p u).setCell (p := ⟨p, G, none⟩) (Nat.le_refl _) e).setCell (p := ⟨p + 1, 0, none⟩) (Nat.le_succ _) d0).setCell (p := ⟨p + 1, 1, none⟩) (Nat.le_succ _) d1).setCell (p := ⟨p + 1, 2, none⟩) (Nat.le_succ _) d2).setCell (p := ⟨p + 1, 3, none⟩) (Nat.le_succ _) d3).setCell (p := ⟨p + 1, 4, none⟩) (Nat.le_succ _) d4).setCell (p := ⟨p + 1, 5, none⟩) (Nat.le_succ _) d5)).setCell (p := ⟨p + 1 + 1, 0, none⟩) (Nat.le_add_right p 2) g0).setCell (p := ⟨p + 1 + 1, 1, none⟩) (Nat.le_add_right p 2) g1).setCell (p := ⟨p + 1 + 1, 2, none⟩) (Nat.le_add_right p 2) g2
    exact ⟨hb.os, hb.tape, hb.output, hb.size, fun j hj hn => (k3.block j (by omega) (by omega)).trans ((k2.block j (by omega) (by omega)).trans (k1.block j hj (by omega)))⟩
  · exact (((((((((((hb).setCell (p := ⟨p, G, none⟩) (Nat.le_refl _) e).setCell (p := ⟨p + 1, 0, none⟩) (Nat.le_succ _) d0).setCell (p := ⟨p + 1, 1, none⟩) (Nat.le_succ _) d1).setCell (p := ⟨p + 1, 2, none⟩) (Nat.le_succ _) d2).setCell (p := ⟨p + 1, 3, none⟩) (Nat.le_succ _) d3).setCell (p := ⟨p + 1, 4, none⟩) (Nat.le_succ _) d4).setCell (p := ⟨p + 1, 5, none⟩) (Nat.le_succ _) d5)).setCell (p := ⟨p + 1 + 1, 0, none⟩) (Nat.le_add_right p 2) g0).setCell (p := ⟨p + 1 + 1, 1, none⟩) (Nat.le_add_right p 2) g1).setCell (p := ⟨p + 1 + 1, 2, none⟩) (Nat.le_add_right p 2) g2
set_option maxRecDepth 100000 in
set_option maxHeartbeats 8000000 in
theorem rroom_full0 {w : World} {s : Nat} {t : Int} {L : Nat → List Nat} {f : Nat → Value} (h : Rs w L f) (hn : ∀ i, i < 4 → (L i).length ≤ 100000) (found : Bool) (hf : s ≤ (L 0).length + (L 1).length) (hF : fromA L t found = 0) {l : List Nat} {x : Nat} (hl : L 0 = l ++ [x]) :
    Calls Try.prog 150 #[rv29 s t f, .bool found] w fun e w' => ∃ f', e = .returned (.tuple #[rv29 s t f', tv false true (x : Int)]) ∧ Rs w' (upd (upd L 0 l) 2 (x :: L 2)) f' ∧ Nf w f f' ∧ Below w.heap.size w w' := by
  unfold rv29
  have HRS := Lib.hid h
  obtain ⟨p0, n0, c0, e0, l0, k0, r0, b0⟩ := h 0 (by omega)
  obtain ⟨p1, n1, c1, e1, l1, k1, r1, b1⟩ := h 1 (by omega)
  obtain ⟨p2, n2, c2, e2, l2, k2, r2, b2⟩ := h 2 (by omega)
  obtain ⟨p3, n3, c3, e3, l3, k3, r3, b3⟩ := h 3 (by omega)
  rw [e0, e1, e2, e3]
  have h0 := hn 0 (by omega)
  have h1 := hn 1 (by omega)
  have h2 := hn 2 (by omega)
  have h3 := hn 3 (by omega)
  obtain ⟨m, hm⟩ : ∃ m, l.length = m := ⟨_, rfl⟩
  have hnF : n0 = m + 1 := by rw [← l0, hl, List.length_append, List.length_singleton, hm]
  unfold fromA at hF
  rw [l0] at hF h0
  rw [l1] at h1
  rw [l2] at h2
  rw [l3] at h3
  rw [l0, l1] at hf
  have g1 := IntWalk.i64_in ((n0 : Int) + (n1 : Int)) (by omega)
  have g2 : ¬ (n0 : Int) + (n1 : Int) < (s : Int) := by omega
  have HF := Lib.hid hF
  have HC := Lib.hid (fun u (hb : Below w.heap.size w u) => (by have := rcut_any (c := c0) hm (by omega) (by omega) (hl ▸ r0.below hb); rwa [← hnF] at this : Calls Try.prog 151 #[.slice p0 n0 c0] u fun e w' => ∃ q k, e = .returned (.tuple #[.slice q m k, .int .u32 (x : Int)]) ∧ w'.ownsRow u.heap.size 38 1 (.slice q m k) m ((ints l).map (Value.int .u32)) ∧ Below u.heap.size u w'))
  obtain ⟨N, hN⟩ : ∃ N, n2 + 1 = N := ⟨_, rfl⟩
  have HNW := Lib.hid (fun u (hb : Ru u p2 (ints (L 2))) => (hN ▸ rnewest_any (c := c2) l2 (by omega) hb x : Calls Try.prog 148 #[.slice p2 n2 c2, .int .u32 (x : Int)] u fun e w' => ∃ q k, e = .returned (.slice q N k) ∧ w'.ownsRow u.heap.size 38 1 (.slice q N k) N ((ints (x :: L 2)).map (Value.int .u32)) ∧ Below u.heap.size u w'))
  have HLL := Lib.hid (show l.length = m ∧ (x :: L 2).length = N ∧ (∀ i, i < 4 → Lv w (L i) (f i)) ∧ f 0 = .slice p0 n0 c0 ∧ f 1 = .slice p1 n1 c1 ∧ f 2 = .slice p2 n2 c2 ∧ f 3 = .slice p3 n3 c3 ∧ Ru w p2 (ints (L 2)) ∧ (∀ y, p2 = some y → y.block < w.heap.size) from ⟨hm, by rw [List.length_cons, l2, hN], h, e0, e1, e2, e3, r2, b2⟩)
  have hb : Below w.heap.size w (((w.alloc (.cells #[.int .i64 (s : Int), .slice p0 n0 c0, .slice p1 n1 c1, .slice p2 n2 c2, .slice p3 n3 c3, .int .i64 t] 97)).alloc (.cells #[.int .i64 0, .slice none 0 0, .slice none 0 0, .slice none 0 0, .slice none 0 0, .int .i64 0] 97)).alloc (.cells #[.bool false, .bool false, .int .u32 0] 110)) := by go_grown
  have hx0 : (((w.alloc (.cells #[.int .i64 (s : Int), .slice p0 n0 c0, .slice p1 n1 c1, .slice p2 n2 c2, .slice p3 n3 c3, .int .i64 t] 97)).alloc (.cells #[.int .i64 0, .slice none 0 0, .slice none 0 0, .slice none 0 0, .slice none 0 0, .int .i64 0] 97)).alloc (.cells #[.bool false, .bool false, .int .u32 0] 110)).heap[w.heap.size]? = some (.cells #[.int .i64 (s : Int), .slice p0 n0 c0, .slice p1 n1 c1, .slice p2 n2 c2, .slice p3 n3 c3, .int .i64 t] 97 (0, 0)) := by
    have q1 := (MapKept.heap_alloc w (.cells #[.int .i64 (s : Int), .slice p0 n0 c0, .slice p1 n1 c1, .slice p2 n2 c2, .slice p3 n3 c3, .int .i64 t] 97)).1
    exact ((MapKept.heap_alloc ((w.alloc (.cells #[.int .i64 (s : Int), .slice p0 n0 c0, .slice p1 n1 c1, .slice p2 n2 c2, .slice p3 n3 c3, .int .i64 t] 97)).alloc (.cells #[.int .i64 0, .slice none 0 0, .slice none 0 0, .slice none 0 0, .slice none 0 0, .int .i64 0] 97)) (.cells #[.bool false, .bool false, .int .u32 0] 110)).2 _ (by simp; omega)).trans (((MapKept.heap_alloc (w.alloc (.cells #[.int .i64 (s : Int), .slice p0 n0 c0, .slice p1 n1 c1, .slice p2 n2 c2, .slice p3 n3 c3, .int .i64 t] 97)) (.cells #[.int .i64 0, .slice none 0 0, .slice none 0 0, .slice none 0 0, .slice none 0 0, .int .i64 0] 97)).2 _ (by simp)).trans q1)
  have hx1 : (((w.alloc (.cells #[.int .i64 (s : Int), .slice p0 n0 c0, .slice p1 n1 c1, .slice p2 n2 c2, .slice p3 n3 c3, .int .i64 t] 97)).alloc (.cells #[.int .i64 0, .slice none 0 0, .slice none 0 0, .slice none 0 0, .slice none 0 0, .int .i64 0] 97)).alloc (.cells #[.bool false, .bool false, .int .u32 0] 110)).heap[w.heap.size + 1]? = some (.cells #[.int .i64 0, .slice none 0 0, .slice none 0 0, .slice none 0 0, .slice none 0 0, .int .i64 0] 97 (0, 0)) := by
    have q1 := (MapKept.heap_alloc (w.alloc (.cells #[.int .i64 (s : Int), .slice p0 n0 c0, .slice p1 n1 c1, .slice p2 n2 c2, .slice p3 n3 c3, .int .i64 t] 97)) (.cells #[.int .i64 0, .slice none 0 0, .slice none 0 0, .slice none 0 0, .slice none 0 0, .int .i64 0] 97)).1
    rw [World.size_alloc] at q1
    exact ((MapKept.heap_alloc ((w.alloc (.cells #[.int .i64 (s : Int), .slice p0 n0 c0, .slice p1 n1 c1, .slice p2 n2 c2, .slice p3 n3 c3, .int .i64 t] 97)).alloc (.cells #[.int .i64 0, .slice none 0 0, .slice none 0 0, .slice none 0 0, .slice none 0 0, .int .i64 0] 97)) (.cells #[.bool false, .bool false, .int .u32 0] 110)).2 _ (by simp)).trans q1
  have hx2 : (((w.alloc (.cells #[.int .i64 (s : Int), .slice p0 n0 c0, .slice p1 n1 c1, .slice p2 n2 c2, .slice p3 n3 c3, .int .i64 t] 97)).alloc (.cells #[.int .i64 0, .slice none 0 0, .slice none 0 0, .slice none 0 0, .slice none 0 0, .int .i64 0] 97)).alloc (.cells #[.bool false, .bool false, .int .u32 0] 110)).heap[w.heap.size + 1 + 1]? = some (.cells #[.bool false, .bool false, .int .u32 0] 110 (0, 0)) := by
    have q1 := (MapKept.heap_alloc ((w.alloc (.cells #[.int .i64 (s : Int), .slice p0 n0 c0, .slice p1 n1 c1, .slice p2 n2 c2, .slice p3 n3 c3, .int .i64 t] 97)).alloc (.cells #[.int .i64 0, .slice none 0 0, .slice none 0 0, .slice none 0 0, .slice none 0 0, .int .i64 0] 97)) (.cells #[.bool false, .bool false, .int .u32 0] 110)).1
    rwa [World.size_alloc, World.size_alloc] at q1
  clear h hn hf hF hl hm hnF hN e0 e1 e2 e3 l0 l1 l2 l3 k0 k1 k2 k3 r0 r1 r2 r3 b0 b1 b2 b3 h0 h1 h2 h3
  go_enter Try.func150, Try.ntmps150
  go_upto_region 5 with fail
  generalize ((w.alloc (.cells #[.int .i64 (s : Int), .slice p0 n0 c0, .slice p1 n1 c1, .slice p2 n2 c2, .slice p3 n3 c3, .int .i64 t] 97)).alloc (.cells #[.int .i64 0, .slice none 0 0, .slice none 0 0, .slice none 0 0, .slice none 0 0, .int .i64 0] 97)).alloc (.cells #[.bool false, .bool false, .int .u32 0] 110) = w3 at *
  obtain ⟨d0, d1, d2, d3, d4, d5, df⟩ : w3.cell? ⟨w.heap.size, 0, none⟩ = some (.int .i64 (s : Int)) ∧ w3.cell? ⟨w.heap.size, 1, none⟩ = some (.slice p0 n0 c0) ∧ w3.cell? ⟨w.heap.size, 2, none⟩ = some (.slice p1 n1 c1) ∧ w3.cell? ⟨w.heap.size, 3, none⟩ = some (.slice p2 n2 c2) ∧ w3.cell? ⟨w.heap.size, 4, none⟩ = some (.slice p3 n3 c3) ∧ w3.cell? ⟨w.heap.size, 5, none⟩ = some (.int .i64 t) ∧ ∀ j, w3.frozen? ⟨w.heap.size, j, none⟩ = false := by refine ⟨?_, ?_, ?_, ?_, ?_, ?_, fun j => ?_⟩ <;> simp [World.cell?, World.frozen?, hx0]
  go_cut [39] (fun c wx => c = .bool true ∧ wx = w3)
  case first =>
    by_cases h0 : 0 < n0
    · have h0' : (0 : Int) < (n0 : Int) := by omega
      by_cases h2 : t < (n0 : Int)
      · go_wp2_with fail
        go_meet
        case rel => exact ⟨rfl, rfl⟩
      · by_cases h3 : (n0 : Int) = t
        · subst h3
          cases found with
          | true => (go_wp2_with fail; go_meet; case rel => exact ⟨rfl, rfl⟩)
          | false => (exfalso; have := HF.out; rw [if_neg (by intro h; simp at h)] at this; omega)
        · have h3b : ((n0 : Int) == t) = false := by rw [beq_eq_false_iff_ne]; exact h3
          (exfalso; have := HF.out; rw [if_neg (by intro h; rcases h.2 with h | h; exact h2 h; exact h3 h.1)] at this; omega)
    · have h0' : ¬ (0 : Int) < (n0 : Int) := by omega
      (exfalso; have := HF.out; rw [if_neg (fun h => h0 h.1)] at this; omega)
  case rest =>
  obtain ⟨rfl, rfl⟩ := hcut
  have HX := Lib.hid (show wc.heap[w.heap.size]? = some (.cells #[.int .i64 (s : Int), .slice p0 n0 c0, .slice p1 n1 c1, .slice p2 n2 c2, .slice p3 n3 c3, .int .i64 t] 97 (0, 0)) ∧ wc.heap[w.heap.size + 1]? = some (.cells #[.int .i64 0, .slice none 0 0, .slice none 0 0, .slice none 0 0, .slice none 0 0, .int .i64 0] 97 (0, 0)) ∧ wc.heap[w.heap.size + 1 + 1]? = some (.cells #[.bool false, .bool false, .int .u32 0] 110 (0, 0)) ∧ Below w.heap.size w wc from ⟨hx0, hx1, hx2, hb⟩)
  clear hx0 hx1 hx2 hb HF g1 g2
  go_wp2_with fail
  refine (HC.out _ HX.out.2.2.2).mono ?_
  rintro e w4 ⟨q, k, rfl, hrow, b4⟩
  have lt2 := (Array.getElem?_eq_some_iff.1 HX.out.2.2.1).1
  have hx40 := (b4.block w.heap.size (by omega)).trans HX.out.1
  have hx41 := (b4.block (w.heap.size + 1) (by omega)).trans HX.out.2.1
  have hx42 := (b4.block (w.heap.size + 1 + 1) (by omega)).trans HX.out.2.2.1
  have hb4 := tr HX.out.2.2.2 b4
  clear d0 d1 d2 d3 d4 d5 df
  obtain ⟨d0, d1, d2, d3, d4, d5, df⟩ : w4.cell? ⟨w.heap.size, 0, none⟩ = some (.int .i64 (s : Int)) ∧ w4.cell? ⟨w.heap.size, 1, none⟩ = some (.slice p0 n0 c0) ∧ w4.cell? ⟨w.heap.size, 2, none⟩ = some (.slice p1 n1 c1) ∧ w4.cell? ⟨w.heap.size, 3, none⟩ = some (.slice p2 n2 c2) ∧ w4.cell? ⟨w.heap.size, 4, none⟩ = some (.slice p3 n3 c3) ∧ w4.cell? ⟨w.heap.size, 5, none⟩ = some (.int .i64 t) ∧ ∀ j, w4.frozen? ⟨w.heap.size, j, none⟩ = false := by refine ⟨?_, ?_, ?_, ?_, ?_, ?_, fun j => ?_⟩ <;> simp [World.cell?, World.frozen?, hx40]
  have hb5 := hb4.setCell (p := ⟨w.heap.size, 1, none⟩) (Nat.le_refl _) (.slice q m k)
  have hx50 := heap_set (j := 1) hx40 (.slice q m k)
  have hk5 := kp_set (u := w4) (p := w.heap.size) (j := 1) (d := .slice q m k)
  have ROW := Lib.hid (show ((Lv w4 l (.slice q m k)) ∧ ∀ y, q = some y → wc.heap.size ≤ y.block) from ⟨Lv.of hrow HLL.out.1, fun y hy => by subst hy; exact (hrow.lt y.block rfl).1⟩)
  have H5 := Lib.hid (show (w4.setCell ⟨w.heap.size, 1, none⟩ (.slice q m k)).heap[w.heap.size]? = some (.cells #[.int .i64 (s : Int), .slice q m k, .slice p1 n1 c1, .slice p2 n2 c2, .slice p3 n3 c3, .int .i64 t] 97 (0, 0)) ∧ (w4.setCell ⟨w.heap.size, 1, none⟩ (.slice q m k)).heap[w.heap.size + 1]? = some (.cells #[.int .i64 0, .slice none 0 0, .slice none 0 0, .slice none 0 0, .slice none 0 0, .int .i64 0] 97 (0, 0)) ∧ (w4.setCell ⟨w.heap.size, 1, none⟩ (.slice q m k)).heap[w.heap.size + 1 + 1]? = some (.cells #[.bool false, .bool false, .int .u32 0] 110 (0, 0)) ∧ Below w.heap.size w (w4.setCell ⟨w.heap.size, 1, none⟩ (.slice q m k)) ∧ Kp (fun j => j = w.heap.size) w4 (w4.setCell ⟨w.heap.size, 1, none⟩ (.slice q m k)) ∧ w.heap.size + 1 + 1 < wc.heap.size ∧ wc.heap.size ≤ w4.heap.size from ⟨hx50, (hk5.block _ (by have := b4.size; omega) (by omega)).trans hx41, (hk5.block _ (by have := b4.size; omega) (by omega)).trans hx42, hb5, hk5, lt2, b4.size⟩)
  clear hrow b4 lt2 hx40 hx41 hx42 hb4 hb5 hx50 hk5
  go_wp2_with fail
  refine (HNW.out _ (HLL.out.2.2.2.2.2.2.2.1.below H5.out.2.2.2.1)).mono ?_
  rintro e w6 ⟨q2, k2, rfl, hrow2, b6⟩
  clear d0 d1 d2 d3 d4 d5 df
  generalize w4.setCell ⟨w.heap.size, 1, none⟩ (.slice q m k) = w5 at *
  have hs5 := H5.out.2.2.2.2.1.size
  have l56 := b6.size
  have hx60 := (b6.block w.heap.size (by have := H5.out; omega)).trans H5.out.1
  have hx61 := (b6.block (w.heap.size + 1) (by have := H5.out; omega)).trans H5.out.2.1
  have hx62 := (b6.block (w.heap.size + 1 + 1) (by have := H5.out; omega)).trans H5.out.2.2.1
  obtain ⟨d0, d1, d2, d3, d4, d5, df⟩ : w6.cell? ⟨w.heap.size, 0, none⟩ = some (.int .i64 (s : Int)) ∧ w6.cell? ⟨w.heap.size, 1, none⟩ = some (.slice q m k) ∧ w6.cell? ⟨w.heap.size, 2, none⟩ = some (.slice p1 n1 c1) ∧ w6.cell? ⟨w.heap.size, 3, none⟩ = some (.slice p2 n2 c2) ∧ w6.cell? ⟨w.heap.size, 4, none⟩ = some (.slice p3 n3 c3) ∧ w6.cell? ⟨w.heap.size, 5, none⟩ = some (.int .i64 t) ∧ ∀ j, w6.frozen? ⟨w.heap.size, j, none⟩ = false := by refine ⟨?_, ?_, ?_, ?_, ?_, ?_, fun j => ?_⟩ <;> simp [World.cell?, World.frozen?, hx60]
  obtain ⟨m0, m1, m2, m3, m4, m5, mf⟩ : w6.cell? ⟨w.heap.size + 1, 0, none⟩ = some (.int .i64 0) ∧ w6.cell? ⟨w.heap.size + 1, 1, none⟩ = some (.slice none 0 0) ∧ w6.cell? ⟨w.heap.size + 1, 2, none⟩ = some (.slice none 0 0) ∧ w6.cell? ⟨w.heap.size + 1, 3, none⟩ = some (.slice none 0 0) ∧ w6.cell? ⟨w.heap.size + 1, 4, none⟩ = some (.slice none 0 0) ∧ w6.cell? ⟨w.heap.size + 1, 5, none⟩ = some (.int .i64 0) ∧ ∀ j, w6.frozen? ⟨w.heap.size + 1, j, none⟩ = false := by refine ⟨?_, ?_, ?_, ?_, ?_, ?_, fun j => ?_⟩ <;> simp [World.cell?, World.frozen?, hx61]
  obtain ⟨y0, y1, y2, yf⟩ : w6.cell? ⟨w.heap.size + 1 + 1, 0, none⟩ = some (.bool false) ∧ w6.cell? ⟨w.heap.size + 1 + 1, 1, none⟩ = some (.bool false) ∧ w6.cell? ⟨w.heap.size + 1 + 1, 2, none⟩ = some (.int .u32 0) ∧ ∀ j, w6.frozen? ⟨w.heap.size + 1 + 1, j, none⟩ = false := by refine ⟨?_, ?_, ?_, fun j => ?_⟩ <;> simp [World.cell?, World.frozen?, hx62]
  have X6 := Lib.hid (And.intro hx60 (And.intro hx61 hx62))
  have ROW2 := Lib.hid (show (Lv w6 (x :: L 2) (.slice q2 N k2)) ∧ (∀ y, q2 = some y → w5.heap.size ≤ y.block) ∧ Lv w6 l (.slice q m k) ∧ Below w.heap.size w w6 ∧ w.heap.size + 1 + 1 < wc.heap.size ∧ wc.heap.size ≤ w5.heap.size ∧ w5.heap.size ≤ w6.heap.size from
    ⟨Lv.of hrow2 HLL.out.2.1, fun y hy => by subst hy; exact (hrow2.lt y.block rfl).1, (ROW.out.1.kp H5.out.2.2.2.2.1 fun p' n' c' e' y hy => by cases e'; have := ROW.out.2 y hy; have := H5.out; omega).below b6, tr H5.out.2.2.2.1 b6, by have := H5.out; omega, by have := H5.out; omega, l56⟩)
  clear hx60 hx61 hx62 hrow2 b6 hs5 l56 H5
  go_wp2_with fail
  obtain ⟨wf, hwf, hz, hy, hk, hbf⟩ := room_end (G := 3) (e := .slice q2 N k2) (d0 := .int .i64 (s : Int)) (d1 := .slice q m k) (d2 := .slice p1 n1 c1) (d3 := .slice q2 N k2) (d4 := .slice p3 n3 c3) (d5 := .int .i64 t) (g0 := .bool false) (g1 := .bool true) (g2 := .int .u32 (x : Int)) X6.out.2.1 X6.out.2.2
  rw [← hwf]
  clear hwf
  have hb9 := hbf w ROW2.out.2.2.2.1
  obtain ⟨z0, z1, z2, z3, z4, z5⟩ : wf.cell? ⟨w.heap.size + 1, 0, none⟩ = some (.int .i64 (s : Int)) ∧ wf.cell? ⟨w.heap.size + 1, 1, none⟩ = some (.slice q m k) ∧ wf.cell? ⟨w.heap.size + 1, 2, none⟩ = some (.slice p1 n1 c1) ∧ wf.cell? ⟨w.heap.size + 1, 3, none⟩ = some (.slice q2 N k2) ∧ wf.cell? ⟨w.heap.size + 1, 4, none⟩ = some (.slice p3 n3 c3) ∧ wf.cell? ⟨w.heap.size + 1, 5, none⟩ = some (.int .i64 t) := by refine ⟨?_, ?_, ?_, ?_, ?_, ?_⟩ <;> simp [World.cell?, hz]
  obtain ⟨t0, t1, t2⟩ : wf.cell? ⟨w.heap.size + 1 + 1, 0, none⟩ = some (.bool false) ∧ wf.cell? ⟨w.heap.size + 1 + 1, 1, none⟩ = some (.bool true) ∧ wf.cell? ⟨w.heap.size + 1 + 1, 2, none⟩ = some (.int .u32 (x : Int)) := by refine ⟨?_, ?_, ?_⟩ <;> simp [World.cell?, hy]
  refine bodyPost_ret (v := .tuple #[.agg #[.int .i64 (s : Int), .slice q m k, .slice p1 n1 c1, .slice q2 N k2, .slice p3 n3 c3, .int .i64 t], tv false true (x : Int)]) (by simp [results, Try.results150, go_sem, z0, z1, z2, z3, z4, z5, t0, t1, t2]) rfl ⟨fun j => if j = 0 then .slice q m k else if j = 1 then .slice p1 n1 c1 else if j = 2 then .slice q2 N k2 else .slice p3 n3 c3, rfl, ?_, ?_, hb9⟩
  case refine_2 =>
    intro i hi
    have hi4 : i = 0 ∨ i = 1 ∨ i = 2 ∨ i = 3 := by omega
    rcases hi4 with rfl | rfl | rfl | rfl
    · exact .inr fun p' n' c' y e hy => by
        change (Value.slice q m k : Value) = _ at e
        cases e; have := ROW.out.2 y hy; have := ROW2.out.2.2.2.2; omega
    · exact .inl HLL.out.2.2.2.2.1.symm
    · exact .inr fun p' n' c' y e hy => by
        change (Value.slice q2 N k2 : Value) = _ at e
        cases e; have := ROW2.out.2.1 y hy; have := ROW2.out.2.2.2.2; omega
    · exact .inl HLL.out.2.2.2.2.2.2.1.symm
  have R0 := ROW2.out.2.2.1.kp hk fun p' n' c' e' y hy => by cases e'; have := ROW.out.2 y hy; have := ROW2.out.2.2.2.2; omega
  have R1 := ROW2.out.1.kp hk fun p' n' c' e' y hy => by cases e'; have := ROW2.out.2.1 y hy; have := ROW2.out.2.2.2.2; omega
  intro i hi
  have hi4 : i = 0 ∨ i = 1 ∨ i = 2 ∨ i = 3 := by omega
  rcases hi4 with rfl | rfl | rfl | rfl
  · exact R0
  · have R2 := HLL.out.2.2.1 1 (by omega)
    rw [HLL.out.2.2.2.2.1] at R2
    exact R2.below hb9
  · exact R1
  · have R2 := HLL.out.2.2.1 3 (by omega)
    rw [HLL.out.2.2.2.2.2.2.1] at R2
    exact R2.below hb9
set_option maxRecDepth 100000 in
set_option maxHeartbeats 8000000 in
theorem rroom_full1 {w : World} {s : Nat} {t : Int} {L : Nat → List Nat} {f : Nat → Value} (h : Rs w L f) (hn : ∀ i, i < 4 → (L i).length ≤ 100000) (found : Bool) (hf : s ≤ (L 0).length + (L 1).length) (hF : fromA L t found = 1) {l : List Nat} {x : Nat} (hl : L 1 = l ++ [x]) :
    Calls Try.prog 150 #[rv29 s t f, .bool found] w fun e w' => ∃ f', e = .returned (.tuple #[rv29 s t f', tv false true (x : Int)]) ∧ Rs w' (upd (upd L 1 l) 3 (x :: L 3)) f' ∧ Nf w f f' ∧ Below w.heap.size w w' := by
  unfold rv29
  have HRS := Lib.hid h
  obtain ⟨p0, n0, c0, e0, l0, k0, r0, b0⟩ := h 0 (by omega)
  obtain ⟨p1, n1, c1, e1, l1, k1, r1, b1⟩ := h 1 (by omega)
  obtain ⟨p2, n2, c2, e2, l2, k2, r2, b2⟩ := h 2 (by omega)
  obtain ⟨p3, n3, c3, e3, l3, k3, r3, b3⟩ := h 3 (by omega)
  rw [e0, e1, e2, e3]
  have h0 := hn 0 (by omega)
  have h1 := hn 1 (by omega)
  have h2 := hn 2 (by omega)
  have h3 := hn 3 (by omega)
  obtain ⟨m, hm⟩ : ∃ m, l.length = m := ⟨_, rfl⟩
  have hnF : n1 = m + 1 := by rw [← l1, hl, List.length_append, List.length_singleton, hm]
  unfold fromA at hF
  rw [l0] at hF h0
  rw [l1] at h1
  rw [l2] at h2
  rw [l3] at h3
  rw [l0, l1] at hf
  have g1 := IntWalk.i64_in ((n0 : Int) + (n1 : Int)) (by omega)
  have g2 : ¬ (n0 : Int) + (n1 : Int) < (s : Int) := by omega
  have HF := Lib.hid hF
  have HC := Lib.hid (fun u (hb : Below w.heap.size w u) => (by have := rcut_any (c := c1) hm (by omega) (by omega) (hl ▸ r1.below hb); rwa [← hnF] at this : Calls Try.prog 151 #[.slice p1 n1 c1] u fun e w' => ∃ q k, e = .returned (.tuple #[.slice q m k, .int .u32 (x : Int)]) ∧ w'.ownsRow u.heap.size 38 1 (.slice q m k) m ((ints l).map (Value.int .u32)) ∧ Below u.heap.size u w'))
  obtain ⟨N, hN⟩ : ∃ N, n3 + 1 = N := ⟨_, rfl⟩
  have HNW := Lib.hid (fun u (hb : Ru u p3 (ints (L 3))) => (hN ▸ rnewest_any (c := c3) l3 (by omega) hb x : Calls Try.prog 148 #[.slice p3 n3 c3, .int .u32 (x : Int)] u fun e w' => ∃ q k, e = .returned (.slice q N k) ∧ w'.ownsRow u.heap.size 38 1 (.slice q N k) N ((ints (x :: L 3)).map (Value.int .u32)) ∧ Below u.heap.size u w'))
  have HLL := Lib.hid (show l.length = m ∧ (x :: L 3).length = N ∧ (∀ i, i < 4 → Lv w (L i) (f i)) ∧ f 0 = .slice p0 n0 c0 ∧ f 1 = .slice p1 n1 c1 ∧ f 2 = .slice p2 n2 c2 ∧ f 3 = .slice p3 n3 c3 ∧ Ru w p3 (ints (L 3)) ∧ (∀ y, p3 = some y → y.block < w.heap.size) from ⟨hm, by rw [List.length_cons, l3, hN], h, e0, e1, e2, e3, r3, b3⟩)
  have hb : Below w.heap.size w (((w.alloc (.cells #[.int .i64 (s : Int), .slice p0 n0 c0, .slice p1 n1 c1, .slice p2 n2 c2, .slice p3 n3 c3, .int .i64 t] 97)).alloc (.cells #[.int .i64 0, .slice none 0 0, .slice none 0 0, .slice none 0 0, .slice none 0 0, .int .i64 0] 97)).alloc (.cells #[.bool false, .bool false, .int .u32 0] 110)) := by go_grown
  have hx0 : (((w.alloc (.cells #[.int .i64 (s : Int), .slice p0 n0 c0, .slice p1 n1 c1, .slice p2 n2 c2, .slice p3 n3 c3, .int .i64 t] 97)).alloc (.cells #[.int .i64 0, .slice none 0 0, .slice none 0 0, .slice none 0 0, .slice none 0 0, .int .i64 0] 97)).alloc (.cells #[.bool false, .bool false, .int .u32 0] 110)).heap[w.heap.size]? = some (.cells #[.int .i64 (s : Int), .slice p0 n0 c0, .slice p1 n1 c1, .slice p2 n2 c2, .slice p3 n3 c3, .int .i64 t] 97 (0, 0)) := by
    have q1 := (MapKept.heap_alloc w (.cells #[.int .i64 (s : Int), .slice p0 n0 c0, .slice p1 n1 c1, .slice p2 n2 c2, .slice p3 n3 c3, .int .i64 t] 97)).1
    exact ((MapKept.heap_alloc ((w.alloc (.cells #[.int .i64 (s : Int), .slice p0 n0 c0, .slice p1 n1 c1, .slice p2 n2 c2, .slice p3 n3 c3, .int .i64 t] 97)).alloc (.cells #[.int .i64 0, .slice none 0 0, .slice none 0 0, .slice none 0 0, .slice none 0 0, .int .i64 0] 97)) (.cells #[.bool false, .bool false, .int .u32 0] 110)).2 _ (by simp; omega)).trans (((MapKept.heap_alloc (w.alloc (.cells #[.int .i64 (s : Int), .slice p0 n0 c0, .slice p1 n1 c1, .slice p2 n2 c2, .slice p3 n3 c3, .int .i64 t] 97)) (.cells #[.int .i64 0, .slice none 0 0, .slice none 0 0, .slice none 0 0, .slice none 0 0, .int .i64 0] 97)).2 _ (by simp)).trans q1)
  have hx1 : (((w.alloc (.cells #[.int .i64 (s : Int), .slice p0 n0 c0, .slice p1 n1 c1, .slice p2 n2 c2, .slice p3 n3 c3, .int .i64 t] 97)).alloc (.cells #[.int .i64 0, .slice none 0 0, .slice none 0 0, .slice none 0 0, .slice none 0 0, .int .i64 0] 97)).alloc (.cells #[.bool false, .bool false, .int .u32 0] 110)).heap[w.heap.size + 1]? = some (.cells #[.int .i64 0, .slice none 0 0, .slice none 0 0, .slice none 0 0, .slice none 0 0, .int .i64 0] 97 (0, 0)) := by
    have q1 := (MapKept.heap_alloc (w.alloc (.cells #[.int .i64 (s : Int), .slice p0 n0 c0, .slice p1 n1 c1, .slice p2 n2 c2, .slice p3 n3 c3, .int .i64 t] 97)) (.cells #[.int .i64 0, .slice none 0 0, .slice none 0 0, .slice none 0 0, .slice none 0 0, .int .i64 0] 97)).1
    rw [World.size_alloc] at q1
    exact ((MapKept.heap_alloc ((w.alloc (.cells #[.int .i64 (s : Int), .slice p0 n0 c0, .slice p1 n1 c1, .slice p2 n2 c2, .slice p3 n3 c3, .int .i64 t] 97)).alloc (.cells #[.int .i64 0, .slice none 0 0, .slice none 0 0, .slice none 0 0, .slice none 0 0, .int .i64 0] 97)) (.cells #[.bool false, .bool false, .int .u32 0] 110)).2 _ (by simp)).trans q1
  have hx2 : (((w.alloc (.cells #[.int .i64 (s : Int), .slice p0 n0 c0, .slice p1 n1 c1, .slice p2 n2 c2, .slice p3 n3 c3, .int .i64 t] 97)).alloc (.cells #[.int .i64 0, .slice none 0 0, .slice none 0 0, .slice none 0 0, .slice none 0 0, .int .i64 0] 97)).alloc (.cells #[.bool false, .bool false, .int .u32 0] 110)).heap[w.heap.size + 1 + 1]? = some (.cells #[.bool false, .bool false, .int .u32 0] 110 (0, 0)) := by
    have q1 := (MapKept.heap_alloc ((w.alloc (.cells #[.int .i64 (s : Int), .slice p0 n0 c0, .slice p1 n1 c1, .slice p2 n2 c2, .slice p3 n3 c3, .int .i64 t] 97)).alloc (.cells #[.int .i64 0, .slice none 0 0, .slice none 0 0, .slice none 0 0, .slice none 0 0, .int .i64 0] 97)) (.cells #[.bool false, .bool false, .int .u32 0] 110)).1
    rwa [World.size_alloc, World.size_alloc] at q1
  clear h hn hf hF hl hm hnF hN e0 e1 e2 e3 l0 l1 l2 l3 k0 k1 k2 k3 r0 r1 r2 r3 b0 b1 b2 b3 h0 h1 h2 h3
  go_enter Try.func150, Try.ntmps150
  go_upto_region 5 with fail
  generalize ((w.alloc (.cells #[.int .i64 (s : Int), .slice p0 n0 c0, .slice p1 n1 c1, .slice p2 n2 c2, .slice p3 n3 c3, .int .i64 t] 97)).alloc (.cells #[.int .i64 0, .slice none 0 0, .slice none 0 0, .slice none 0 0, .slice none 0 0, .int .i64 0] 97)).alloc (.cells #[.bool false, .bool false, .int .u32 0] 110) = w3 at *
  obtain ⟨d0, d1, d2, d3, d4, d5, df⟩ : w3.cell? ⟨w.heap.size, 0, none⟩ = some (.int .i64 (s : Int)) ∧ w3.cell? ⟨w.heap.size, 1, none⟩ = some (.slice p0 n0 c0) ∧ w3.cell? ⟨w.heap.size, 2, none⟩ = some (.slice p1 n1 c1) ∧ w3.cell? ⟨w.heap.size, 3, none⟩ = some (.slice p2 n2 c2) ∧ w3.cell? ⟨w.heap.size, 4, none⟩ = some (.slice p3 n3 c3) ∧ w3.cell? ⟨w.heap.size, 5, none⟩ = some (.int .i64 t) ∧ ∀ j, w3.frozen? ⟨w.heap.size, j, none⟩ = false := by refine ⟨?_, ?_, ?_, ?_, ?_, ?_, fun j => ?_⟩ <;> simp [World.cell?, World.frozen?, hx0]
  go_cut [39] (fun c wx => c = .bool false ∧ wx = w3)
  case first =>
    by_cases h0 : 0 < n0
    · have h0' : (0 : Int) < (n0 : Int) := by omega
      by_cases h2 : t < (n0 : Int)
      · exfalso; have := HF.out; rw [if_pos ⟨h0, .inl h2⟩] at this; omega
      · by_cases h3 : (n0 : Int) = t
        · subst h3
          cases found with
          | true => (exfalso; have := HF.out; rw [if_pos ⟨h0, .inr ⟨rfl, rfl⟩⟩] at this; omega)
          | false => (go_wp2_with fail; go_meet; case rel => exact ⟨rfl, rfl⟩)
        · have h3b : ((n0 : Int) == t) = false := by rw [beq_eq_false_iff_ne]; exact h3
          (go_wp2_with fail; go_meet; case rel => exact ⟨rfl, rfl⟩)
    · have h0' : ¬ (0 : Int) < (n0 : Int) := by omega
      (go_wp2_with fail; go_meet; case rel => exact ⟨rfl, rfl⟩)
  case rest =>
  obtain ⟨rfl, rfl⟩ := hcut
  have HX := Lib.hid (show wc.heap[w.heap.size]? = some (.cells #[.int .i64 (s : Int), .slice p0 n0 c0, .slice p1 n1 c1, .slice p2 n2 c2, .slice p3 n3 c3, .int .i64 t] 97 (0, 0)) ∧ wc.heap[w.heap.size + 1]? = some (.cells #[.int .i64 0, .slice none 0 0, .slice none 0 0, .slice none 0 0, .slice none 0 0, .int .i64 0] 97 (0, 0)) ∧ wc.heap[w.heap.size + 1 + 1]? = some (.cells #[.bool false, .bool false, .int .u32 0] 110 (0, 0)) ∧ Below w.heap.size w wc from ⟨hx0, hx1, hx2, hb⟩)
  clear hx0 hx1 hx2 hb HF g1 g2
  go_wp2_with fail
  refine (HC.out _ HX.out.2.2.2).mono ?_
  rintro e w4 ⟨q, k, rfl, hrow, b4⟩
  have lt2 := (Array.getElem?_eq_some_iff.1 HX.out.2.2.1).1
  have hx40 := (b4.block w.heap.size (by omega)).trans HX.out.1
  have hx41 := (b4.block (w.heap.size + 1) (by omega)).trans HX.out.2.1
  have hx42 := (b4.block (w.heap.size + 1 + 1) (by omega)).trans HX.out.2.2.1
  have hb4 := tr HX.out.2.2.2 b4
  clear d0 d1 d2 d3 d4 d5 df
  obtain ⟨d0, d1, d2, d3, d4, d5, df⟩ : w4.cell? ⟨w.heap.size, 0, none⟩ = some (.int .i64 (s : Int)) ∧ w4.cell? ⟨w.heap.size, 1, none⟩ = some (.slice p0 n0 c0) ∧ w4.cell? ⟨w.heap.size, 2, none⟩ = some (.slice p1 n1 c1) ∧ w4.cell? ⟨w.heap.size, 3, none⟩ = some (.slice p2 n2 c2) ∧ w4.cell? ⟨w.heap.size, 4, none⟩ = some (.slice p3 n3 c3) ∧ w4.cell? ⟨w.heap.size, 5, none⟩ = some (.int .i64 t) ∧ ∀ j, w4.frozen? ⟨w.heap.size, j, none⟩ = false := by refine ⟨?_, ?_, ?_, ?_, ?_, ?_, fun j => ?_⟩ <;> simp [World.cell?, World.frozen?, hx40]
  have hb5 := hb4.setCell (p := ⟨w.heap.size, 2, none⟩) (Nat.le_refl _) (.slice q m k)
  have hx50 := heap_set (j := 2) hx40 (.slice q m k)
  have hk5 := kp_set (u := w4) (p := w.heap.size) (j := 2) (d := .slice q m k)
  have ROW := Lib.hid (show ((Lv w4 l (.slice q m k)) ∧ ∀ y, q = some y → wc.heap.size ≤ y.block) from ⟨Lv.of hrow HLL.out.1, fun y hy => by subst hy; exact (hrow.lt y.block rfl).1⟩)
  have H5 := Lib.hid (show (w4.setCell ⟨w.heap.size, 2, none⟩ (.slice q m k)).heap[w.heap.size]? = some (.cells #[.int .i64 (s : Int), .slice p0 n0 c0, .slice q m k, .slice p2 n2 c2, .slice p3 n3 c3, .int .i64 t] 97 (0, 0)) ∧ (w4.setCell ⟨w.heap.size, 2, none⟩ (.slice q m k)).heap[w.heap.size + 1]? = some (.cells #[.int .i64 0, .slice none 0 0, .slice none 0 0, .slice none 0 0, .slice none 0 0, .int .i64 0] 97 (0, 0)) ∧ (w4.setCell ⟨w.heap.size, 2, none⟩ (.slice q m k)).heap[w.heap.size + 1 + 1]? = some (.cells #[.bool false, .bool false, .int .u32 0] 110 (0, 0)) ∧ Below w.heap.size w (w4.setCell ⟨w.heap.size, 2, none⟩ (.slice q m k)) ∧ Kp (fun j => j = w.heap.size) w4 (w4.setCell ⟨w.heap.size, 2, none⟩ (.slice q m k)) ∧ w.heap.size + 1 + 1 < wc.heap.size ∧ wc.heap.size ≤ w4.heap.size from ⟨hx50, (hk5.block _ (by have := b4.size; omega) (by omega)).trans hx41, (hk5.block _ (by have := b4.size; omega) (by omega)).trans hx42, hb5, hk5, lt2, b4.size⟩)
  clear hrow b4 lt2 hx40 hx41 hx42 hb4 hb5 hx50 hk5
  go_wp2_with fail
  refine (HNW.out _ (HLL.out.2.2.2.2.2.2.2.1.below H5.out.2.2.2.1)).mono ?_
  rintro e w6 ⟨q2, k2, rfl, hrow2, b6⟩
  clear d0 d1 d2 d3 d4 d5 df
  generalize w4.setCell ⟨w.heap.size, 2, none⟩ (.slice q m k) = w5 at *
  have hs5 := H5.out.2.2.2.2.1.size
  have l56 := b6.size
  have hx60 := (b6.block w.heap.size (by have := H5.out; omega)).trans H5.out.1
  have hx61 := (b6.block (w.heap.size + 1) (by have := H5.out; omega)).trans H5.out.2.1
  have hx62 := (b6.block (w.heap.size + 1 + 1) (by have := H5.out; omega)).trans H5.out.2.2.1
  obtain ⟨d0, d1, d2, d3, d4, d5, df⟩ : w6.cell? ⟨w.heap.size, 0, none⟩ = some (.int .i64 (s : Int)) ∧ w6.cell? ⟨w.heap.size, 1, none⟩ = some (.slice p0 n0 c0) ∧ w6.cell? ⟨w.heap.size, 2, none⟩ = some (.slice q m k) ∧ w6.cell? ⟨w.heap.size, 3, none⟩ = some (.slice p2 n2 c2) ∧ w6.cell? ⟨w.heap.size, 4, none⟩ = some (.slice p3 n3 c3) ∧ w6.cell? ⟨w.heap.size, 5, none⟩ = some (.int .i64 t) ∧ ∀ j, w6.frozen? ⟨w.heap.size, j, none⟩ = false := by refine ⟨?_, ?_, ?_, ?_, ?_, ?_, fun j => ?_⟩ <;> simp [World.cell?, World.frozen?, hx60]
  obtain ⟨m0, m1, m2, m3, m4, m5, mf⟩ : w6.cell? ⟨w.heap.size + 1, 0, none⟩ = some (.int .i64 0) ∧ w6.cell? ⟨w.heap.size + 1, 1, none⟩ = some (.slice none 0 0) ∧ w6.cell? ⟨w.heap.size + 1, 2, none⟩ = some (.slice none 0 0) ∧ w6.cell? ⟨w.heap.size + 1, 3, none⟩ = some (.slice none 0 0) ∧ w6.cell? ⟨w.heap.size + 1, 4, none⟩ = some (.slice none 0 0) ∧ w6.cell? ⟨w.heap.size + 1, 5, none⟩ = some (.int .i64 0) ∧ ∀ j, w6.frozen? ⟨w.heap.size + 1, j, none⟩ = false := by refine ⟨?_, ?_, ?_, ?_, ?_, ?_, fun j => ?_⟩ <;> simp [World.cell?, World.frozen?, hx61]
  obtain ⟨y0, y1, y2, yf⟩ : w6.cell? ⟨w.heap.size + 1 + 1, 0, none⟩ = some (.bool false) ∧ w6.cell? ⟨w.heap.size + 1 + 1, 1, none⟩ = some (.bool false) ∧ w6.cell? ⟨w.heap.size + 1 + 1, 2, none⟩ = some (.int .u32 0) ∧ ∀ j, w6.frozen? ⟨w.heap.size + 1 + 1, j, none⟩ = false := by refine ⟨?_, ?_, ?_, fun j => ?_⟩ <;> simp [World.cell?, World.frozen?, hx62]
  have X6 := Lib.hid (And.intro hx60 (And.intro hx61 hx62))
  have ROW2 := Lib.hid (show (Lv w6 (x :: L 3) (.slice q2 N k2)) ∧ (∀ y, q2 = some y → w5.heap.size ≤ y.block) ∧ Lv w6 l (.slice q m k) ∧ Below w.heap.size w w6 ∧ w.heap.size + 1 + 1 < wc.heap.size ∧ wc.heap.size ≤ w5.heap.size ∧ w5.heap.size ≤ w6.heap.size from
    ⟨Lv.of hrow2 HLL.out.2.1, fun y hy => by subst hy; exact (hrow2.lt y.block rfl).1, (ROW.out.1.kp H5.out.2.2.2.2.1 fun p' n' c' e' y hy => by cases e'; have := ROW.out.2 y hy; have := H5.out; omega).below b6, tr H5.out.2.2.2.1 b6, by have := H5.out; omega, by have := H5.out; omega, l56⟩)
  clear hx60 hx61 hx62 hrow2 b6 hs5 l56 H5
  go_wp2_with fail
  obtain ⟨wf, hwf, hz, hy, hk, hbf⟩ := room_end (G := 4) (e := .slice q2 N k2) (d0 := .int .i64 (s : Int)) (d1 := .slice p0 n0 c0) (d2 := .slice q m k) (d3 := .slice p2 n2 c2) (d4 := .slice q2 N k2) (d5 := .int .i64 t) (g0 := .bool false) (g1 := .bool true) (g2 := .int .u32 (x : Int)) X6.out.2.1 X6.out.2.2
  rw [← hwf]
  clear hwf
  have hb9 := hbf w ROW2.out.2.2.2.1
  obtain ⟨z0, z1, z2, z3, z4, z5⟩ : wf.cell? ⟨w.heap.size + 1, 0, none⟩ = some (.int .i64 (s : Int)) ∧ wf.cell? ⟨w.heap.size + 1, 1, none⟩ = some (.slice p0 n0 c0) ∧ wf.cell? ⟨w.heap.size + 1, 2, none⟩ = some (.slice q m k) ∧ wf.cell? ⟨w.heap.size + 1, 3, none⟩ = some (.slice p2 n2 c2) ∧ wf.cell? ⟨w.heap.size + 1, 4, none⟩ = some (.slice q2 N k2) ∧ wf.cell? ⟨w.heap.size + 1, 5, none⟩ = some (.int .i64 t) := by refine ⟨?_, ?_, ?_, ?_, ?_, ?_⟩ <;> simp [World.cell?, hz]
  obtain ⟨t0, t1, t2⟩ : wf.cell? ⟨w.heap.size + 1 + 1, 0, none⟩ = some (.bool false) ∧ wf.cell? ⟨w.heap.size + 1 + 1, 1, none⟩ = some (.bool true) ∧ wf.cell? ⟨w.heap.size + 1 + 1, 2, none⟩ = some (.int .u32 (x : Int)) := by refine ⟨?_, ?_, ?_⟩ <;> simp [World.cell?, hy]
  refine bodyPost_ret (v := .tuple #[.agg #[.int .i64 (s : Int), .slice p0 n0 c0, .slice q m k, .slice p2 n2 c2, .slice q2 N k2, .int .i64 t], tv false true (x : Int)]) (by simp [results, Try.results150, go_sem, z0, z1, z2, z3, z4, z5, t0, t1, t2]) rfl ⟨fun j => if j = 0 then .slice p0 n0 c0 else if j = 1 then .slice q m k else if j = 2 then .slice p2 n2 c2 else .slice q2 N k2, rfl, ?_, ?_, hb9⟩
  case refine_2 =>
    intro i hi
    have hi4 : i = 0 ∨ i = 1 ∨ i = 2 ∨ i = 3 := by omega
    rcases hi4 with rfl | rfl | rfl | rfl
    · exact .inl HLL.out.2.2.2.1.symm
    · exact .inr fun p' n' c' y e hy => by
        change (Value.slice q m k : Value) = _ at e
        cases e; have := ROW.out.2 y hy; have := ROW2.out.2.2.2.2; omega
    · exact .inl HLL.out.2.2.2.2.2.1.symm
    · exact .inr fun p' n' c' y e hy => by
        change (Value.slice q2 N k2 : Value) = _ at e
        cases e; have := ROW2.out.2.1 y hy; have := ROW2.out.2.2.2.2; omega
  have R0 := ROW2.out.2.2.1.kp hk fun p' n' c' e' y hy => by cases e'; have := ROW.out.2 y hy; have := ROW2.out.2.2.2.2; omega
  have R1 := ROW2.out.1.kp hk fun p' n' c' e' y hy => by cases e'; have := ROW2.out.2.1 y hy; have := ROW2.out.2.2.2.2; omega
  intro i hi
  have hi4 : i = 0 ∨ i = 1 ∨ i = 2 ∨ i = 3 := by omega
  rcases hi4 with rfl | rfl | rfl | rfl
  · have R2 := HLL.out.2.2.1 0 (by omega)
    rw [HLL.out.2.2.2.1] at R2
    exact R2.below hb9
  · exact R0
  · have R2 := HLL.out.2.2.1 2 (by omega)
    rw [HLL.out.2.2.2.2.2.1] at R2
    exact R2.below hb9
  · exact R1
end Go.Proofs.Ytggimkfepcgaoaa.Arc
