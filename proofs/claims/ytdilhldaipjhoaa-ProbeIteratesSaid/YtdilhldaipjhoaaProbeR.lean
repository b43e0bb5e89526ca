/-
  The walk over the law ProbeIterates (layer 6).
-/
import Derived.Test.YtdilhldaipjhoaaProbeH
namespace Go.Proofs.Ytdilhldaipjhoaa.Probe
open Go.RowKit Kit GrowM Grow Go.Shelf

/-- what lies in the blocks of the law between two ranges -/
def ItV (s T tb g' cap : Nat) (p n : Int) (g : Nat) (turn : Int) (V : World) : Prop :=
  V.cell? ⟨s, 0, none⟩ = some (.int .i64 n) ∧ Boxed V (s + 1) 4 (.bool false) ∧ V.cell? ⟨T, 0, none⟩ = some (.slice (some ⟨g', 0, none⟩) g cap) ∧ V.cell? ⟨T + 1, 0, none⟩ = some (.int .u64 p) ∧ V.cell? ⟨T + 2, 0, none⟩ = some (.int .i64 (g : Int)) ∧
  Boxed V tb 3 (.int .i64 turn) ∧ (∀ j : Nat, j < g → V.cell? ⟨g', j, none⟩ = some (.int .i64 (atI p g (j : Int)))) ∧ s + 1 < V.heap.size ∧ T + 2 < V.heap.size ∧ g' < V.heap.size
theorem ItV.below {s T tb g' cap : Nat} {p n : Int} {g : Nat} {turn : Int} {V W : World} (h : ItV s T tb g' cap p n g turn V) (hb : Below V.heap.size V W) : ItV s T tb g' cap p n g turn W := by
  obtain ⟨h1, h2, h3, h4, h5, h6, h7, h8, h9, h10⟩ := h
  have hs := hb.size
  refine ⟨(hb.cell (p := ⟨s, 0, none⟩) (by show s < _; omega)).trans h1, (hb.block _ h2.lt).trans h2, (hb.cell (p := ⟨T, 0, none⟩) (by show T < _; omega)).trans h3, (hb.cell (p := ⟨T + 1, 0, none⟩) (by show T + 1 < _; omega)).trans h4, (hb.cell (p := ⟨T + 2, 0, none⟩) (by show T + 2 < _; omega)).trans h5, (hb.block _ h6.lt).trans h6, fun j hj => (hb.cell (p := ⟨g', j, none⟩) h10).trans (h7 j hj), by omega, by omega, by omega⟩
theorem ItV.next {s T tb g' cap : Nat} {p n : Int} {g : Nat} {turn : Int} {V : World} (h : ItV s T tb g' cap p n g turn V) (turn' : Int) : ItV s T V.heap.size g' cap p n g turn' (V.alloc (.cells #[.int .i64 turn'] 3)) := by
  have hb : Below V.heap.size V (V.alloc (.cells #[.int .i64 turn'] 3)) := by go_grown
  obtain ⟨h1, h2, h3, h4, h5, _, h7, h8, h9, h10⟩ := h.below hb
  exact ⟨h1, h2, h3, h4, h5, Boxed.new _ _ _, h7, h8, h9, h10⟩
/-- the result is stored, and the blocks of deferred calls of two ranges are closed -/
theorem finish2 {w W w2 : World} {R D D2 : Nat} {t : TypeId} {v0 : Value} (v : Value) (hRD : D ≠ R) (hRD2 : D2 ≠ R) (hDD : D ≠ D2) (hW : Below w.heap.size w W) (b2 : Below W.heap.size W w2) (hRs : w.heap.size ≤ R) (hR : Boxed W R t v0) (hK : W.heap[D]? = some (.deferred (some []))) (hK2 : W.heap[D2]? = some (.deferred (some []))) (hD : w.heap.size ≤ D) (hD2 : w.heap.size ≤ D2) :
    (w2.setCell ⟨R, 0, none⟩ v).heap[D2]? = some (.deferred (some [])) ∧ ((w2.setCell ⟨R, 0, none⟩ v).putObj D2 (.deferred none)).heap[D]? = some (.deferred (some [])) ∧
    (((w2.setCell ⟨R, 0, none⟩ v).putObj D2 (.deferred none)).putObj D (.deferred none)).cell? ⟨R, 0, none⟩ = some v ∧ Below w.heap.size w (((w2.setCell ⟨R, 0, none⟩ v).putObj D2 (.deferred none)).putObj D (.deferred none)) := by
  obtain ⟨k1, k2, k3⟩ := finish v hRD2 hW b2 hRs hR hK2 hD2
  have hK3 := (Below.heap_setCell w2 ⟨R, 0, none⟩ v D hRD).trans ((b2.block D (Array.getElem?_eq_some_iff.1 hK).1).trans hK)
  have hK4 : ((w2.setCell ⟨R, 0, none⟩ v).putObj D2 (.deferred none)).heap[D]? = some (.deferred (some [])) := (World.putObj_heap_other hDD).trans hK3
  refine ⟨k1, hK4, ?_, ?_⟩
  · rw [← k2]
    simp [World.cell?, World.putObj, hRD]
  · exact k3.trans (belowK_b (w := w) (Nat.le_refl _) _ D _ _ hD hK4 rfl rfl)
/-- a round that ends the law has seen this -/
def Off2 (p : Int) (g : Nat) (pre : List Int) : Prop := ∃ q x, pre = q ++ [x] ∧ (g ≤ q.length ∨ atI p g (q.length : Int) ≠ x)
theorem off2_never (p : Int) (g : Nat) (pre : List Int) (hp : pre <+: seqI p g g) : ¬ Off2 p g pre := by
  rintro ⟨q, x, rfl, h⟩
  have hl : q.length < g := by have := hp.length_le; rw [seqI_len] at this; simp at this; omega
  have hx : atI p g (q.length : Int) = x := by
    rw [← seqI_get p g g q.length (by rw [seqI_len]; exact hl)]
    have := hp.getElem (i := q.length) (by simp)
    rw [← this]; simp
  rcases h with h | h
  · omega
  · exact h hx
theorem ownFrom_imp {β : Type} {B : Nat} {q : β → Prop} {I : β → World → Prop} (h : OwnFrom B I) : OwnFrom B (fun s W => q s → I s W) := fun s A C row hs hg hr hq => h s A C row (hs hq) hg hr
attribute [local go_sem] Oper.semAt_some
set_option maxRecDepth 100000 in
set_option maxHeartbeats 4000000 in
theorem iterates_ok (p : Int) (g : Nat) (hg : pow2 (g : Int) = true) (hg4 : g ≤ 4096) (p0 : 0 ≤ p) (p1 : p ≤ 18446744073709551615) (n : Int) (w : World) :
    Calls Try.prog 6 #[.int .u64 p, .int .i64 (g : Int), .int .i64 n] w fun e w' => e = .returned (.bool true) ∧ Below w.heap.size w w' := by
  obtain ⟨a1, a2⟩ := pow2_range _ hg
  have HG := Lib.hid hg
  have HA := Lib.hid (All_ok p (g : Int) hg)
  have HR := Lib.hid (rAll_ok p g hg p0 p1)
  have HE := Lib.hid (seqI_ne p g a1)
  clear hg
  refine (callsIn_wide (n := 6)).1 ?_
  refine callsIn_of_wp_marks Try.func6 rfl trivial ?_ rfl
  simp only [Try.ntmps6, List.size_toArray, List.length_cons, List.length_nil, Nat.reduceAdd, Nat.reduceSub, Array.replicate_succ, Array.replicate_zero, List.push_toArray, List.append_toArray, List.nil_append, List.cons_append]
  have hnil := fun (wx : World) (ts lb : Array Value) => run_eql_func_nil (P := Try.prog) wx 35 _ _ _ (.func 49) ts lb Try.underlying35
  gi_wp2_with (refine ⟨trivial, ?_⟩; gi_at_call 15; refine (callsIn_wide.2 (rvalid_any (g : Int) _)).mono ?_; rintro e w' ⟨rfl, rfl⟩; rw [HG.out])
  refine ⟨trivial, ?_⟩
  refine (callsIn_wide.2 (HR.out _)).mono ?_
  rintro e w1 ⟨v, rfl, hown, b1⟩
  have hoc := own_cases (l := seqI p g g) (f := Value.int .i64) (by rw [seqI_len]; exact hown)
  rcases hoc with ⟨_, hn⟩ | ⟨g', cap', rfl, hg1, hg2, _, _, hcs⟩
  · exact absurd hn HE.out
  have HC := Lib.hid hcs
  clear hown hcs
  rw [seqI_len]
  have w1s : w.heap.size + 2 ≤ w1.heap.size := by have := b1.size; simp at this; omega
  gi_wp2_with (refine ⟨trivial, ?_⟩; gi_at_call 22; refine (callsIn_wide.2 (HA.out _)).mono ?_; rintro e w' ⟨rfl, rfl⟩; simp only [seqF, seqW])
  generalize hV : ((((w1.alloc (.cells #[.slice (some ⟨g', 0, none⟩) g cap'] 31)).alloc (.cells #[.int .u64 p] 22)).alloc (.cells #[.int .i64 (g : Int)] 3)).alloc (.cells #[.int .i64 0] 3)) = V0
  have hVb : Below w1.heap.size w1 V0 := by rw [← hV]; go_grown
  have hVs : w1.heap.size + 4 ≤ V0.heap.size := by rw [← hV]; simp
  have it0 : ItV w.heap.size w1.heap.size (w1.heap.size + 3) g' cap' p n g 0 V0 := by
    have q1 : Boxed w1 w.heap.size 3 (.int .i64 n) := (b1.block _ (by simp; omega)).trans (by simp only [heap_if, World.size_alloc, ↓reduceIte]; (repeat' (split <;> try omega)); all_goals rfl)
    have q2 : Boxed w1 (w.heap.size + 1) 4 (.bool false) := (b1.block _ (by simp)).trans (by simp only [heap_if, World.size_alloc, ↓reduceIte])
    have r1 : Boxed V0 w1.heap.size 31 (.slice (some ⟨g', 0, none⟩) g cap') := by rw [← hV]; simp only [Boxed, heap_if, World.size_alloc, ↓reduceIte]; (repeat' (split <;> try omega)); all_goals rfl
    have r2 : Boxed V0 (w1.heap.size + 1) 22 (.int .u64 p) := by rw [← hV]; simp only [Boxed, heap_if, World.size_alloc, ↓reduceIte]; (repeat' (split <;> try omega)); all_goals rfl
    have r3 : Boxed V0 (w1.heap.size + 2) 3 (.int .i64 (g : Int)) := by rw [← hV]; simp only [Boxed, heap_if, World.size_alloc, ↓reduceIte]; (repeat' (split <;> try omega)); all_goals rfl
    have r4 : Boxed V0 (w1.heap.size + 3) 3 (.int .i64 0) := by rw [← hV]; simp only [Boxed, heap_if, World.size_alloc, ↓reduceIte]
    refine ⟨(hVb.cell (p := ⟨w.heap.size, 0, none⟩) (by show w.heap.size < _; omega)).trans q1.cell, (hVb.block _ (by omega)).trans q2, r1.cell, r2.cell, r3.cell, r4, fun j hj => ?_, by omega, by omega, by omega⟩
    have := HC.out j (by rw [seqI_len]; exact hj)
    rw [seqI_get] at this
    exact (hVb.cell (p := ⟨g', j, none⟩) hg2).trans this
  have hWV : Below w.heap.size w V0 := (by go_grown : Below w.heap.size w ((w.alloc (.cells #[.int .i64 n] 3)).alloc (.cells #[.bool false] 4))).trans ((b1.mono (by simp; omega)).trans (hVb.mono (by omega)))
  have IT0 := Lib.hid it0
  obtain ⟨_, _, _, cB0, cG0, bT0, _⟩ := it0
  have cT0 := bT0.cell
  refine wpIn_loop_rounds 3 ?_
  rw [roundsIn_succ]
  gi_wp2
  have bV0 : Below V0.heap.size V0 (V0.alloc (.cells #[.int .i64 0] 3)) := by go_grown
  refine' wpIn_rangeFunc_ownF (encs := fun x : Int => #[.int .i64 x]) (Kp := Below V0.heap.size) (S := fun xs => xs = seqI p g g) (Sp := fun pre => pre <+: seqI p g g) (N := g) rfl (by decide) (gf := 49) (lb := #[.pointer (some ⟨w1.heap.size + 1 + 1, 0, none⟩), .pointer (some ⟨w1.heap.size + 1, 0, none⟩)]) rfl trivial (enters_of Try.func49 (by kernel_rfl) rfl)
    (w0 := V0.alloc (.cells #[.int .i64 0] 3))
    (fun l J Jx W hW _ _ hY h0 => seq1_in (Below V0.heap.size) l (w1.heap.size + 1) (w1.heap.size + 2) p g HG.out J Jx (fun W1 W2 hh => ⟨hh.cell (p := ⟨w1.heap.size + 1, 0, none⟩) (by show w1.heap.size + 1 < _; omega), hh.cell (p := ⟨w1.heap.size + 2, 0, none⟩) (by show w1.heap.size + 2 < _; omega)⟩) hY W ((hW.cell (p := ⟨w1.heap.size + 1, 0, none⟩) (by rw [World.size_alloc]; show w1.heap.size + 1 < _; omega)).trans ((bV0.cell (p := ⟨w1.heap.size + 1, 0, none⟩) (by show w1.heap.size + 1 < _; omega)).trans cB0)) ((hW.cell (p := ⟨w1.heap.size + 2, 0, none⟩) (by rw [World.size_alloc]; show w1.heap.size + 2 < _; omega)).trans ((bV0.cell (p := ⟨w1.heap.size + 2, 0, none⟩) (by show w1.heap.size + 2 < _; omega)).trans cG0)) h0)
    belowK_t (belowK_b (by simp)) (Below.refl _ _) (fun _ => rfl)
    (fun pre W => (Boxed W V0.heap.size 3 (.int .i64 (pre.length : Int)) ∧ Below V0.heap.size V0 W) ∧ (pre = [] ∨ (pre.length : Int) < n))
    (fun c pre W => ((c ≠ .ret → (Boxed W V0.heap.size 3 (.int .i64 (pre.length : Int)) ∧ Below V0.heap.size V0 W)) ∧ (c ≠ .ret → c = .exit 2 ∧ pre ≠ [] ∧ n ≤ (pre.length : Int) ∧ (pre.length = 1 ∨ (pre.length : Int) - 1 < n))) ∧ (c = .ret → Off2 p g pre))
    (OwnFrom.and (OwnFrom.and (Own.from (boxed_own _ _ (fun pre : List Int => .int .i64 (pre.length : Int))) _) (ownFrom_below (by simp) (by simp))) (ownFrom_pure _ _))
    (fun c => OwnFrom.and (OwnFrom.and (ownFrom_imp (OwnFrom.and (Own.from (boxed_own _ _ (fun pre : List Int => .int .i64 (pre.length : Int))) _) (ownFrom_below (by simp) (by simp)))) (ownFrom_pure _ _)) (ownFrom_pure _ _))
    ⟨⟨Boxed.new _ _ _, by go_grown⟩, .inl rfl⟩
    _ ?assign ?body ?done ?stop
  case assign =>
    intro l x W K hK
    gi_wp2
    exact hK
  case body =>
    rintro l pre x W ⟨⟨hC, hB⟩, hpn⟩ hlt
    have hpl : pre.length < g := hlt
    obtain ⟨dN, dR, dW, _, _, dT, dC, _⟩ := IT0.out.below hB
    have eR := dR.cell
    have fR := dR.frozen
    have eT := dT.cell
    have eC := hC.cell
    have fC := hC.frozen
    have eX := dC pre.length hpl
    clear dC
    by_cases hv : atI p g (pre.length : Int) = x
    · rw [hv] at eX
      by_cases hm : n ≤ (pre.length : Int) + 1
      · gi_wp2
        refine ⟨KeepsOthers.setCell _ _ _, ⟨fun _ => ⟨?_, ?_⟩, fun _ => ⟨rfl, by simp, ?_, ?_⟩⟩, fun h => by cases h⟩
        · rw [List.length_append, List.length_singleton]; exact hC.set (.int .i64 ((pre.length : Int) + 1))
        · exact hB.setCell (p := ⟨V0.heap.size, 0, none⟩) (Nat.le_refl _) _
        · rw [List.length_append, List.length_singleton]; exact hm
        · rw [List.length_append, List.length_singleton]
          rcases hpn with rfl | h
          · exact .inl rfl
          · right; push_cast; omega
      · gi_wp2
        refine ⟨KeepsOthers.setCell _ _ _, ?_, ⟨?_, ?_⟩, ?_⟩
        · exact (Below.refl _ W).setCell (p := ⟨V0.heap.size, 0, none⟩) (Nat.le_refl _) _
        · rw [List.length_append, List.length_singleton]; exact hC.set (.int .i64 ((pre.length : Int) + 1))
        · exact hB.setCell (p := ⟨V0.heap.size, 0, none⟩) (Nat.le_refl _) _
        · right; rw [List.length_append, List.length_singleton]; push_cast; omega
    · have HO : Hid (Off2 p g (pre ++ [x])) := Lib.hid ⟨pre, x, rfl, .inr hv⟩
      have hv2 : x ≠ atI p g (pre.length : Int) := fun h => hv h.symm
      generalize atI p g (pre.length : Int) = y at *
      have hv3 : (x != y) = true := by simp [bne, hv2]
      gi_wp2
      exact ⟨KeepsOthers.setCell _ _ _, ⟨fun h => absurd rfl h, fun h => absurd rfl h⟩, fun _ => HO.out⟩
  case stop =>
    rintro D c pre W hD hp ⟨⟨h1, h2⟩, h3⟩ hK
    have hcr : c ≠ .ret := fun h => off2_never p g pre hp (h3 h)
    obtain ⟨hC, hB⟩ := h1 hcr
    obtain ⟨rfl, k1, k2, k3⟩ := h2 hcr
    clear h1 h2 h3 hcr
    have hlen := hp.length_le
    rw [seqI_len] at hlen
    have k0 : 1 ≤ pre.length := by cases pre with | nil => exact absurd rfl k1 | cons => simp
    clear hp k1
    generalize pre.length = m at *
    obtain ⟨dN, dR, dW, _, _, dT, dC, _⟩ := IT0.out.below hB
    have eT := dT.cell
    have eC := hC.cell
    clear dC
    rcases (by omega : (m = 1 ∧ n ≤ 1 ∧ 1 < g) ∨ (m = 1 ∧ n ≤ 1 ∧ g ≤ 1) ∨ (1 < m ∧ n = (m : Int) ∧ m < g) ∨ (1 < m ∧ n = (m : Int) ∧ g ≤ m)) with ⟨rfl, hn1, hg1'⟩ | ⟨rfl, hn1, hg1'⟩ | ⟨hm1, rfl, hm2⟩ | ⟨hm1, rfl, hm2⟩
    · gi_wp2
      have hDW : D < W.heap.size := (Array.getElem?_eq_some_iff.1 hK).1
      have hD0 : V0.heap.size < D := by simp only [World.size_alloc] at hD; omega
      have hBs := hB.size
      have it1 := (IT0.out.below hB).next 1
      have hWb : Below W.heap.size W (W.alloc (.cells #[.int .i64 1] 3)) := by go_grown
      have hWV1 : Below w.heap.size w (W.alloc (.cells #[.int .i64 1] 3)) := hWV.trans ((hB.mono (by omega)).trans (hWb.mono (by omega)))
      have hK1 : (W.alloc (.cells #[.int .i64 1] 3)).heap[D]? = some (.deferred (some [])) := (hWb.block _ hDW).trans hK
      have hV1s : W.heap.size < (W.alloc (.cells #[.int .i64 1] 3)).heap.size := by simp
      clear hWb
      generalize hgV : W.alloc (.cells #[.int .i64 1] 3) = V1
      rw [hgV] at it1 hWV1 hK1 hV1s
      have IT1 := Lib.hid it1
      obtain ⟨_, _, _, cB1, cG1, bT1, _⟩ := it1
      have cT1 := bT1.cell
      clear eT eC
      rw [roundsIn_succ]
      gi_wp2
      have bV1 : Below V1.heap.size V1 (V1.alloc (.cells #[.int .i64 0] 3)) := by go_grown
      refine' wpIn_rangeFunc_ownF (encs := fun x : Int => #[.int .i64 x]) (Kp := Below V1.heap.size) (S := fun xs => xs = seqI p g g) (Sp := fun pre => pre <+: seqI p g g) (N := g) rfl (by decide) (gf := 49) (lb := #[.pointer (some ⟨w1.heap.size + 1 + 1, 0, none⟩), .pointer (some ⟨w1.heap.size + 1, 0, none⟩)]) rfl trivial (enters_of Try.func49 (by kernel_rfl) rfl)
        (w0 := V1.alloc (.cells #[.int .i64 0] 3))
        (fun l J Jx W hW _ _ hY h0 => seq1_in (Below V1.heap.size) l (w1.heap.size + 1) (w1.heap.size + 2) p g HG.out J Jx (fun W1 W2 hh => ⟨hh.cell (p := ⟨w1.heap.size + 1, 0, none⟩) (by show w1.heap.size + 1 < _; omega), hh.cell (p := ⟨w1.heap.size + 2, 0, none⟩) (by show w1.heap.size + 2 < _; omega)⟩) hY W ((hW.cell (p := ⟨w1.heap.size + 1, 0, none⟩) (by rw [World.size_alloc]; show w1.heap.size + 1 < _; omega)).trans ((bV1.cell (p := ⟨w1.heap.size + 1, 0, none⟩) (by show w1.heap.size + 1 < _; omega)).trans cB1)) ((hW.cell (p := ⟨w1.heap.size + 2, 0, none⟩) (by rw [World.size_alloc]; show w1.heap.size + 2 < _; omega)).trans ((bV1.cell (p := ⟨w1.heap.size + 2, 0, none⟩) (by show w1.heap.size + 2 < _; omega)).trans cG1)) h0)
        belowK_t (belowK_b (by simp)) (Below.refl _ _) (fun _ => rfl)
        (fun pre W => (Boxed W V1.heap.size 3 (.int .i64 (pre.length : Int)) ∧ Below V1.heap.size V1 W))
        (fun _ pre _ => Off2 p g pre)
        (OwnFrom.and (Own.from (boxed_own _ _ (fun pre : List Int => .int .i64 (pre.length : Int))) _) (ownFrom_below (by simp) (by simp)))
        (fun c => ownFrom_pure _ _)
        ⟨Boxed.new _ _ _, by go_grown⟩
        _ ?assign1 ?body1 ?done1 ?stop1
      case assign1 =>
        intro l x W K hK
        gi_wp2
        exact hK
      case body1 =>
        rintro l pre x W ⟨hC, hB⟩ hlt
        have hpl : pre.length < g := hlt
        obtain ⟨dN, dR, dW, _, _, dT, dC, _⟩ := IT1.out.below hB
        have eR := dR.cell
        have fR := dR.frozen
        have eT := dT.cell
        have eC := hC.cell
        have fC := hC.frozen
        have eX := dC pre.length hpl
        clear dC
        by_cases hv : atI p g (pre.length : Int) = x
        · rw [hv] at eX
          gi_wp2
          refine ⟨KeepsOthers.setCell _ _ _, ?_, ?_, ?_⟩
          · exact (Below.refl _ W).setCell (p := ⟨V1.heap.size, 0, none⟩) (Nat.le_refl _) _
          · rw [List.length_append, List.length_singleton]; exact hC.set (.int .i64 ((pre.length : Int) + 1))
          · exact hB.setCell (p := ⟨V1.heap.size, 0, none⟩) (Nat.le_refl _) _
        · have HO : Hid (Off2 p g (pre ++ [x])) := Lib.hid ⟨pre, x, rfl, .inr hv⟩
          have hv2 : x ≠ atI p g (pre.length : Int) := fun h => hv h.symm
          generalize atI p g (pre.length : Int) = y at *
          have hv3 : (x != y) = true := by simp [bne, hv2]
          gi_wp2
          exact ⟨KeepsOthers.setCell _ _ _, HO.out⟩
      case stop1 =>
        rintro D c pre W hD hp h3 hK
        exact absurd h3 (off2_never p g pre hp)
      case done1 =>
        rintro D2 ys W2 hD2 rfl ⟨hC, hB2⟩ hK2
        rw [seqI_len] at hC
        obtain ⟨dN, dR, dW, _, _, dT, dC, _⟩ := IT1.out.below hB2
        have eT := dT.cell
        have eC := hC.cell
        clear dC
        gi_wp2
        have hV3 : Below W2.heap.size W2 (W2.alloc (.cells #[.int .i64 2] 3)) := by go_grown
        have hT3 : (W2.alloc (.cells #[.int .i64 2] 3)).cell? ⟨W2.heap.size, 0, none⟩ = some (.int .i64 2) := (Boxed.new W2 3 (.int .i64 2)).cell
        generalize hgV3 : W2.alloc (.cells #[.int .i64 2] 3) = V3
        rw [hgV3] at hV3 hT3
        rw [roundsIn_succ]
        have hR3 : Boxed V3 (w.heap.size + 1) 4 (.bool false) := (hV3.block _ dR.lt).trans dR
        have eR := hR3.cell
        have fR := hR3.frozen
        gi_wp2_with (refine ⟨trivial, ?_⟩; gi_at_call 17; refine (callsIn_wide.2 (known_any _)).mono ?_; rintro e w9 ⟨rfl, b9⟩; have hf9 := (b9.frozen (p := ⟨w.heap.size + 1, 0, none⟩) hR3.lt).trans fR; have hc9 := (b9.cell (p := ⟨w.heap.size + 1, 0, none⟩) hR3.lt).trans eR)
        have hW3 : Below w.heap.size w V3 := hWV1.trans ((hB2.mono (by omega)).trans (hV3.mono (by omega)))
        have hB2s := hB2.size
        have hKa : V3.heap[D]? = some (.deferred (some [])) := (hV3.block _ (by omega)).trans ((hB2.block _ (by omega)).trans hK1)
        have hKb : V3.heap[D2]? = some (.deferred (some [])) := (hV3.block _ (Array.getElem?_eq_some_iff.1 hK2).1).trans hK2
        have hD2' : V1.heap.size < D2 := by simp only [World.size_alloc] at hD2; omega
        obtain ⟨k1, k2, k3, k4⟩ := finish2 (.bool true) (by omega : D ≠ w.heap.size + 1) (by omega : D2 ≠ w.heap.size + 1) (by omega) hW3 b9 (by omega) hR3 hKa hKb (by omega) (by omega)
        refine ⟨by simp, .inl ⟨_, _, rfl, run_takeDeferred k1, ?_⟩⟩
        refine ⟨by simp, .inl ⟨_, _, rfl, run_takeDeferred k2, ?_⟩⟩
        exact ⟨.bool true, by simp [results, Try.results6, go_sem, k3], rfl, k4⟩
    · have hq1 : ((1 : Int) != (g : Int)) = false := by have : (g : Int) = 1 := by omega
                                                        simp [this]
      gi_wp2
      have hDW : D < W.heap.size := (Array.getElem?_eq_some_iff.1 hK).1
      have hD0 : V0.heap.size < D := by simp only [World.size_alloc] at hD; omega
      have hBs := hB.size
      have it1 := (IT0.out.below hB).next 1
      have hWb : Below W.heap.size W (W.alloc (.cells #[.int .i64 1] 3)) := by go_grown
      have hWV1 : Below w.heap.size w (W.alloc (.cells #[.int .i64 1] 3)) := hWV.trans ((hB.mono (by omega)).trans (hWb.mono (by omega)))
      have hK1 : (W.alloc (.cells #[.int .i64 1] 3)).heap[D]? = some (.deferred (some [])) := (hWb.block _ hDW).trans hK
      have hV1s : W.heap.size < (W.alloc (.cells #[.int .i64 1] 3)).heap.size := by simp
      clear hWb
      generalize hgV : W.alloc (.cells #[.int .i64 1] 3) = V1
      rw [hgV] at it1 hWV1 hK1 hV1s
      have IT1 := Lib.hid it1
      obtain ⟨_, _, _, cB1, cG1, bT1, _⟩ := it1
      have cT1 := bT1.cell
      clear eT eC
      rw [roundsIn_succ]
      gi_wp2
      have bV1 : Below V1.heap.size V1 (V1.alloc (.cells #[.int .i64 0] 3)) := by go_grown
      refine' wpIn_rangeFunc_ownF (encs := fun x : Int => #[.int .i64 x]) (Kp := Below V1.heap.size) (S := fun xs => xs = seqI p g g) (Sp := fun pre => pre <+: seqI p g g) (N := g) rfl (by decide) (gf := 49) (lb := #[.pointer (some ⟨w1.heap.size + 1 + 1, 0, none⟩), .pointer (some ⟨w1.heap.size + 1, 0, none⟩)]) rfl trivial (enters_of Try.func49 (by kernel_rfl) rfl)
        (w0 := V1.alloc (.cells #[.int .i64 0] 3))
        (fun l J Jx W hW _ _ hY h0 => seq1_in (Below V1.heap.size) l (w1.heap.size + 1) (w1.heap.size + 2) p g HG.out J Jx (fun W1 W2 hh => ⟨hh.cell (p := ⟨w1.heap.size + 1, 0, none⟩) (by show w1.heap.size + 1 < _; omega), hh.cell (p := ⟨w1.heap.size + 2, 0, none⟩) (by show w1.heap.size + 2 < _; omega)⟩) hY W ((hW.cell (p := ⟨w1.heap.size + 1, 0, none⟩) (by rw [World.size_alloc]; show w1.heap.size + 1 < _; omega)).trans ((bV1.cell (p := ⟨w1.heap.size + 1, 0, none⟩) (by show w1.heap.size + 1 < _; omega)).trans cB1)) ((hW.cell (p := ⟨w1.heap.size + 2, 0, none⟩) (by rw [World.size_alloc]; show w1.heap.size + 2 < _; omega)).trans ((bV1.cell (p := ⟨w1.heap.size + 2, 0, none⟩) (by show w1.heap.size + 2 < _; omega)).trans cG1)) h0)
        belowK_t (belowK_b (by simp)) (Below.refl _ _) (fun _ => rfl)
        (fun pre W => (Boxed W V1.heap.size 3 (.int .i64 (pre.length : Int)) ∧ Below V1.heap.size V1 W))
        (fun _ pre _ => Off2 p g pre)
        (OwnFrom.and (Own.from (boxed_own _ _ (fun pre : List Int => .int .i64 (pre.length : Int))) _) (ownFrom_below (by simp) (by simp)))
        (fun c => ownFrom_pure _ _)
        ⟨Boxed.new _ _ _, by go_grown⟩
        _ ?assign2 ?body2 ?done2 ?stop2
      case assign2 =>
        intro l x W K hK
        gi_wp2
        exact hK
      case body2 =>
        rintro l pre x W ⟨hC, hB⟩ hlt
        have hpl : pre.length < g := hlt
        obtain ⟨dN, dR, dW, _, _, dT, dC, _⟩ := IT1.out.below hB
        have eR := dR.cell
        have fR := dR.frozen
        have eT := dT.cell
        have eC := hC.cell
        have fC := hC.frozen
        have eX := dC pre.length hpl
        clear dC
        by_cases hv : atI p g (pre.length : Int) = x
        · rw [hv] at eX
          gi_wp2
          refine ⟨KeepsOthers.setCell _ _ _, ?_, ?_, ?_⟩
          · exact (Below.refl _ W).setCell (p := ⟨V1.heap.size, 0, none⟩) (Nat.le_refl _) _
          · rw [List.length_append, List.length_singleton]; exact hC.set (.int .i64 ((pre.length : Int) + 1))
          · exact hB.setCell (p := ⟨V1.heap.size, 0, none⟩) (Nat.le_refl _) _
        · have HO : Hid (Off2 p g (pre ++ [x])) := Lib.hid ⟨pre, x, rfl, .inr hv⟩
          have hv2 : x ≠ atI p g (pre.length : Int) := fun h => hv h.symm
          generalize atI p g (pre.length : Int) = y at *
          have hv3 : (x != y) = true := by simp [bne, hv2]
          gi_wp2
          exact ⟨KeepsOthers.setCell _ _ _, HO.out⟩
      case stop2 =>
        rintro D c pre W hD hp h3 hK
        exact absurd h3 (off2_never p g pre hp)
      case done2 =>
        rintro D2 ys W2 hD2 rfl ⟨hC, hB2⟩ hK2
        rw [seqI_len] at hC
        obtain ⟨dN, dR, dW, _, _, dT, dC, _⟩ := IT1.out.below hB2
        have eT := dT.cell
        have eC := hC.cell
        clear dC
        gi_wp2
        have hV3 : Below W2.heap.size W2 (W2.alloc (.cells #[.int .i64 2] 3)) := by go_grown
        have hT3 : (W2.alloc (.cells #[.int .i64 2] 3)).cell? ⟨W2.heap.size, 0, none⟩ = some (.int .i64 2) := (Boxed.new W2 3 (.int .i64 2)).cell
        generalize hgV3 : W2.alloc (.cells #[.int .i64 2] 3) = V3
        rw [hgV3] at hV3 hT3
        rw [roundsIn_succ]
        have hR3 : Boxed V3 (w.heap.size + 1) 4 (.bool false) := (hV3.block _ dR.lt).trans dR
        have eR := hR3.cell
        have fR := hR3.frozen
        gi_wp2_with (refine ⟨trivial, ?_⟩; gi_at_call 17; refine (callsIn_wide.2 (known_any _)).mono ?_; rintro e w9 ⟨rfl, b9⟩; have hf9 := (b9.frozen (p := ⟨w.heap.size + 1, 0, none⟩) hR3.lt).trans fR; have hc9 := (b9.cell (p := ⟨w.heap.size + 1, 0, none⟩) hR3.lt).trans eR)
        have hW3 : Below w.heap.size w V3 := hWV1.trans ((hB2.mono (by omega)).trans (hV3.mono (by omega)))
        have hB2s := hB2.size
        have hKa : V3.heap[D]? = some (.deferred (some [])) := (hV3.block _ (by omega)).trans ((hB2.block _ (by omega)).trans hK1)
        have hKb : V3.heap[D2]? = some (.deferred (some [])) := (hV3.block _ (Array.getElem?_eq_some_iff.1 hK2).1).trans hK2
        have hD2' : V1.heap.size < D2 := by simp only [World.size_alloc] at hD2; omega
        obtain ⟨k1, k2, k3, k4⟩ := finish2 (.bool true) (by omega : D ≠ w.heap.size + 1) (by omega : D2 ≠ w.heap.size + 1) (by omega) hW3 b9 (by omega) hR3 hKa hKb (by omega) (by omega)
        refine ⟨by simp, .inl ⟨_, _, rfl, run_takeDeferred k1, ?_⟩⟩
        refine ⟨by simp, .inl ⟨_, _, rfl, run_takeDeferred k2, ?_⟩⟩
        exact ⟨.bool true, by simp [results, Try.results6, go_sem, k3], rfl, k4⟩
    · gi_wp2
      have hDW : D < W.heap.size := (Array.getElem?_eq_some_iff.1 hK).1
      have hD0 : V0.heap.size < D := by simp only [World.size_alloc] at hD; omega
      have hBs := hB.size
      have it1 := (IT0.out.below hB).next 1
      have hWb : Below W.heap.size W (W.alloc (.cells #[.int .i64 1] 3)) := by go_grown
      have hWV1 : Below w.heap.size w (W.alloc (.cells #[.int .i64 1] 3)) := hWV.trans ((hB.mono (by omega)).trans (hWb.mono (by omega)))
      have hK1 : (W.alloc (.cells #[.int .i64 1] 3)).heap[D]? = some (.deferred (some [])) := (hWb.block _ hDW).trans hK
      have hV1s : W.heap.size < (W.alloc (.cells #[.int .i64 1] 3)).heap.size := by simp
      clear hWb
      generalize hgV : W.alloc (.cells #[.int .i64 1] 3) = V1
      rw [hgV] at it1 hWV1 hK1 hV1s
      have IT1 := Lib.hid it1
      obtain ⟨_, _, _, cB1, cG1, bT1, _⟩ := it1
      have cT1 := bT1.cell
      clear eT eC
      rw [roundsIn_succ]
      gi_wp2
      have bV1 : Below V1.heap.size V1 (V1.alloc (.cells #[.int .i64 0] 3)) := by go_grown
      refine' wpIn_rangeFunc_ownF (encs := fun x : Int => #[.int .i64 x]) (Kp := Below V1.heap.size) (S := fun xs => xs = seqI p g g) (Sp := fun pre => pre <+: seqI p g g) (N := g) rfl (by decide) (gf := 49) (lb := #[.pointer (some ⟨w1.heap.size + 1 + 1, 0, none⟩), .pointer (some ⟨w1.heap.size + 1, 0, none⟩)]) rfl trivial (enters_of Try.func49 (by kernel_rfl) rfl)
        (w0 := V1.alloc (.cells #[.int .i64 0] 3))
        (fun l J Jx W hW _ _ hY h0 => seq1_in (Below V1.heap.size) l (w1.heap.size + 1) (w1.heap.size + 2) p g HG.out J Jx (fun W1 W2 hh => ⟨hh.cell (p := ⟨w1.heap.size + 1, 0, none⟩) (by show w1.heap.size + 1 < _; omega), hh.cell (p := ⟨w1.heap.size + 2, 0, none⟩) (by show w1.heap.size + 2 < _; omega)⟩) hY W ((hW.cell (p := ⟨w1.heap.size + 1, 0, none⟩) (by rw [World.size_alloc]; show w1.heap.size + 1 < _; omega)).trans ((bV1.cell (p := ⟨w1.heap.size + 1, 0, none⟩) (by show w1.heap.size + 1 < _; omega)).trans cB1)) ((hW.cell (p := ⟨w1.heap.size + 2, 0, none⟩) (by rw [World.size_alloc]; show w1.heap.size + 2 < _; omega)).trans ((bV1.cell (p := ⟨w1.heap.size + 2, 0, none⟩) (by show w1.heap.size + 2 < _; omega)).trans cG1)) h0)
        belowK_t (belowK_b (by simp)) (Below.refl _ _) (fun _ => rfl)
        (fun pre W => (Boxed W V1.heap.size 3 (.int .i64 (pre.length : Int)) ∧ Below V1.heap.size V1 W))
        (fun _ pre _ => Off2 p g pre)
        (OwnFrom.and (Own.from (boxed_own _ _ (fun pre : List Int => .int .i64 (pre.length : Int))) _) (ownFrom_below (by simp) (by simp)))
        (fun c => ownFrom_pure _ _)
        ⟨Boxed.new _ _ _, by go_grown⟩
        _ ?assign3 ?body3 ?done3 ?stop3
      case assign3 =>
        intro l x W K hK
        gi_wp2
        exact hK
      case body3 =>
        rintro l pre x W ⟨hC, hB⟩ hlt
        have hpl : pre.length < g := hlt
        obtain ⟨dN, dR, dW, _, _, dT, dC, _⟩ := IT1.out.below hB
        have eR := dR.cell
        have fR := dR.frozen
        have eT := dT.cell
        have eC := hC.cell
        have fC := hC.frozen
        have eX := dC pre.length hpl
        clear dC
        by_cases hv : atI p g (pre.length : Int) = x
        · rw [hv] at eX
          gi_wp2
          refine ⟨KeepsOthers.setCell _ _ _, ?_, ?_, ?_⟩
          · exact (Below.refl _ W).setCell (p := ⟨V1.heap.size, 0, none⟩) (Nat.le_refl _) _
          · rw [List.length_append, List.length_singleton]; exact hC.set (.int .i64 ((pre.length : Int) + 1))
          · exact hB.setCell (p := ⟨V1.heap.size, 0, none⟩) (Nat.le_refl _) _
        · have HO : Hid (Off2 p g (pre ++ [x])) := Lib.hid ⟨pre, x, rfl, .inr hv⟩
          have hv2 : x ≠ atI p g (pre.length : Int) := fun h => hv h.symm
          generalize atI p g (pre.length : Int) = y at *
          have hv3 : (x != y) = true := by simp [bne, hv2]
          gi_wp2
          exact ⟨KeepsOthers.setCell _ _ _, HO.out⟩
      case stop3 =>
        rintro D c pre W hD hp h3 hK
        exact absurd h3 (off2_never p g pre hp)
      case done3 =>
        rintro D2 ys W2 hD2 rfl ⟨hC, hB2⟩ hK2
        rw [seqI_len] at hC
        obtain ⟨dN, dR, dW, _, _, dT, dC, _⟩ := IT1.out.below hB2
        have eT := dT.cell
        have eC := hC.cell
        clear dC
        gi_wp2
        have hV3 : Below W2.heap.size W2 (W2.alloc (.cells #[.int .i64 2] 3)) := by go_grown
        have hT3 : (W2.alloc (.cells #[.int .i64 2] 3)).cell? ⟨W2.heap.size, 0, none⟩ = some (.int .i64 2) := (Boxed.new W2 3 (.int .i64 2)).cell
        generalize hgV3 : W2.alloc (.cells #[.int .i64 2] 3) = V3
        rw [hgV3] at hV3 hT3
        rw [roundsIn_succ]
        have hR3 : Boxed V3 (w.heap.size + 1) 4 (.bool false) := (hV3.block _ dR.lt).trans dR
        have eR := hR3.cell
        have fR := hR3.frozen
        gi_wp2_with (refine ⟨trivial, ?_⟩; gi_at_call 17; refine (callsIn_wide.2 (known_any _)).mono ?_; rintro e w9 ⟨rfl, b9⟩; have hf9 := (b9.frozen (p := ⟨w.heap.size + 1, 0, none⟩) hR3.lt).trans fR; have hc9 := (b9.cell (p := ⟨w.heap.size + 1, 0, none⟩) hR3.lt).trans eR)
        have hW3 : Below w.heap.size w V3 := hWV1.trans ((hB2.mono (by omega)).trans (hV3.mono (by omega)))
        have hB2s := hB2.size
        have hKa : V3.heap[D]? = some (.deferred (some [])) := (hV3.block _ (by omega)).trans ((hB2.block _ (by omega)).trans hK1)
        have hKb : V3.heap[D2]? = some (.deferred (some [])) := (hV3.block _ (Array.getElem?_eq_some_iff.1 hK2).1).trans hK2
        have hD2' : V1.heap.size < D2 := by simp only [World.size_alloc] at hD2; omega
        obtain ⟨k1, k2, k3, k4⟩ := finish2 (.bool true) (by omega : D ≠ w.heap.size + 1) (by omega : D2 ≠ w.heap.size + 1) (by omega) hW3 b9 (by omega) hR3 hKa hKb (by omega) (by omega)
        refine ⟨by simp, .inl ⟨_, _, rfl, run_takeDeferred k1, ?_⟩⟩
        refine ⟨by simp, .inl ⟨_, _, rfl, run_takeDeferred k2, ?_⟩⟩
        exact ⟨.bool true, by simp [results, Try.results6, go_sem, k3], rfl, k4⟩
    · gi_wp2
      have hDW : D < W.heap.size := (Array.getElem?_eq_some_iff.1 hK).1
      have hD0 : V0.heap.size < D := by simp only [World.size_alloc] at hD; omega
      have hBs := hB.size
      have it1 := (IT0.out.below hB).next 1
      have hWb : Below W.heap.size W (W.alloc (.cells #[.int .i64 1] 3)) := by go_grown
      have hWV1 : Below w.heap.size w (W.alloc (.cells #[.int .i64 1] 3)) := hWV.trans ((hB.mono (by omega)).trans (hWb.mono (by omega)))
      have hK1 : (W.alloc (.cells #[.int .i64 1] 3)).heap[D]? = some (.deferred (some [])) := (hWb.block _ hDW).trans hK
      have hV1s : W.heap.size < (W.alloc (.cells #[.int .i64 1] 3)).heap.size := by simp
      clear hWb
      generalize hgV : W.alloc (.cells #[.int .i64 1] 3) = V1
      rw [hgV] at it1 hWV1 hK1 hV1s
      have IT1 := Lib.hid it1
      obtain ⟨_, _, _, cB1, cG1, bT1, _⟩ := it1
      have cT1 := bT1.cell
      clear eT eC
      rw [roundsIn_succ]
      gi_wp2
      have bV1 : Below V1.heap.size V1 (V1.alloc (.cells #[.int .i64 0] 3)) := by go_grown
      refine' wpIn_rangeFunc_ownF (encs := fun x : Int => #[.int .i64 x]) (Kp := Below V1.heap.size) (S := fun xs => xs = seqI p g g) (Sp := fun pre => pre <+: seqI p g g) (N := g) rfl (by decide) (gf := 49) (lb := #[.pointer (some ⟨w1.heap.size + 1 + 1, 0, none⟩), .pointer (some ⟨w1.heap.size + 1, 0, none⟩)]) rfl trivial (enters_of Try.func49 (by kernel_rfl) rfl)
        (w0 := V1.alloc (.cells #[.int .i64 0] 3))
        (fun l J Jx W hW _ _ hY h0 => seq1_in (Below V1.heap.size) l (w1.heap.size + 1) (w1.heap.size + 2) p g HG.out J Jx (fun W1 W2 hh => ⟨hh.cell (p := ⟨w1.heap.size + 1, 0, none⟩) (by show w1.heap.size + 1 < _; omega), hh.cell (p := ⟨w1.heap.size + 2, 0, none⟩) (by show w1.heap.size + 2 < _; omega)⟩) hY W ((hW.cell (p := ⟨w1.heap.size + 1, 0, none⟩) (by rw [World.size_alloc]; show w1.heap.size + 1 < _; omega)).trans ((bV1.cell (p := ⟨w1.heap.size + 1, 0, none⟩) (by show w1.heap.size + 1 < _; omega)).trans cB1)) ((hW.cell (p := ⟨w1.heap.size + 2, 0, none⟩) (by rw [World.size_alloc]; show w1.heap.size + 2 < _; omega)).trans ((bV1.cell (p := ⟨w1.heap.size + 2, 0, none⟩) (by show w1.heap.size + 2 < _; omega)).trans cG1)) h0)
        belowK_t (belowK_b (by simp)) (Below.refl _ _) (fun _ => rfl)
        (fun pre W => (Boxed W V1.heap.size 3 (.int .i64 (pre.length : Int)) ∧ Below V1.heap.size V1 W))
        (fun _ pre _ => Off2 p g pre)
        (OwnFrom.and (Own.from (boxed_own _ _ (fun pre : List Int => .int .i64 (pre.length : Int))) _) (ownFrom_below (by simp) (by simp)))
        (fun c => ownFrom_pure _ _)
        ⟨Boxed.new _ _ _, by go_grown⟩
        _ ?assign4 ?body4 ?done4 ?stop4
      case assign4 =>
        intro l x W K hK
        gi_wp2
        exact hK
      case body4 =>
        rintro l pre x W ⟨hC, hB⟩ hlt
        have hpl : pre.length < g := hlt
        obtain ⟨dN, dR, dW, _, _, dT, dC, _⟩ := IT1.out.below hB
        have eR := dR.cell
        have fR := dR.frozen
        have eT := dT.cell
        have eC := hC.cell
        have fC := hC.frozen
        have eX := dC pre.length hpl
        clear dC
        by_cases hv : atI p g (pre.length : Int) = x
        · rw [hv] at eX
          gi_wp2
          refine ⟨KeepsOthers.setCell _ _ _, ?_, ?_, ?_⟩
          · exact (Below.refl _ W).setCell (p := ⟨V1.heap.size, 0, none⟩) (Nat.le_refl _) _
          · rw [List.length_append, List.length_singleton]; exact hC.set (.int .i64 ((pre.length : Int) + 1))
          · exact hB.setCell (p := ⟨V1.heap.size, 0, none⟩) (Nat.le_refl _) _
        · have HO : Hid (Off2 p g (pre ++ [x])) := Lib.hid ⟨pre, x, rfl, .inr hv⟩
          have hv2 : x ≠ atI p g (pre.length : Int) := fun h => hv h.symm
          generalize atI p g (pre.length : Int) = y at *
          have hv3 : (x != y) = true := by simp [bne, hv2]
          gi_wp2
          exact ⟨KeepsOthers.setCell _ _ _, HO.out⟩
      case stop4 =>
        rintro D c pre W hD hp h3 hK
        exact absurd h3 (off2_never p g pre hp)
      case done4 =>
        rintro D2 ys W2 hD2 rfl ⟨hC, hB2⟩ hK2
        rw [seqI_len] at hC
        obtain ⟨dN, dR, dW, _, _, dT, dC, _⟩ := IT1.out.below hB2
        have eT := dT.cell
        have eC := hC.cell
        clear dC
        gi_wp2
        have hV3 : Below W2.heap.size W2 (W2.alloc (.cells #[.int .i64 2] 3)) := by go_grown
        have hT3 : (W2.alloc (.cells #[.int .i64 2] 3)).cell? ⟨W2.heap.size, 0, none⟩ = some (.int .i64 2) := (Boxed.new W2 3 (.int .i64 2)).cell
        generalize hgV3 : W2.alloc (.cells #[.int .i64 2] 3) = V3
        rw [hgV3] at hV3 hT3
        rw [roundsIn_succ]
        have hR3 : Boxed V3 (w.heap.size + 1) 4 (.bool false) := (hV3.block _ dR.lt).trans dR
        have eR := hR3.cell
        have fR := hR3.frozen
        gi_wp2_with (refine ⟨trivial, ?_⟩; gi_at_call 17; refine (callsIn_wide.2 (known_any _)).mono ?_; rintro e w9 ⟨rfl, b9⟩; have hf9 := (b9.frozen (p := ⟨w.heap.size + 1, 0, none⟩) hR3.lt).trans fR; have hc9 := (b9.cell (p := ⟨w.heap.size + 1, 0, none⟩) hR3.lt).trans eR)
        have hW3 : Below w.heap.size w V3 := hWV1.trans ((hB2.mono (by omega)).trans (hV3.mono (by omega)))
        have hB2s := hB2.size
        have hKa : V3.heap[D]? = some (.deferred (some [])) := (hV3.block _ (by omega)).trans ((hB2.block _ (by omega)).trans hK1)
        have hKb : V3.heap[D2]? = some (.deferred (some [])) := (hV3.block _ (Array.getElem?_eq_some_iff.1 hK2).1).trans hK2
        have hD2' : V1.heap.size < D2 := by simp only [World.size_alloc] at hD2; omega
        obtain ⟨k1, k2, k3, k4⟩ := finish2 (.bool true) (by omega : D ≠ w.heap.size + 1) (by omega : D2 ≠ w.heap.size + 1) (by omega) hW3 b9 (by omega) hR3 hKa hKb (by omega) (by omega)
        refine ⟨by simp, .inl ⟨_, _, rfl, run_takeDeferred k1, ?_⟩⟩
        refine ⟨by simp, .inl ⟨_, _, rfl, run_takeDeferred k2, ?_⟩⟩
        exact ⟨.bool true, by simp [results, Try.results6, go_sem, k3], rfl, k4⟩
  case done =>
    rintro D ys W hD rfl ⟨⟨hC, hB⟩, hpn⟩ hK
    rw [seqI_len] at hC hpn
    have hgn : (g : Int) < n := by
      rcases hpn with h | h
      · exact absurd h HE.out
      · exact h
    clear hpn
    obtain ⟨dN, dR, dW, _, _, dT, dC, _⟩ := IT0.out.below hB
    have eT := dT.cell
    have eC := hC.cell
    clear dC
    gi_wp2
    have hDW : D < W.heap.size := (Array.getElem?_eq_some_iff.1 hK).1
    have hD0 : V0.heap.size < D := by simp only [World.size_alloc] at hD; omega
    have hBs := hB.size
    have it1 := (IT0.out.below hB).next 1
    have hWb : Below W.heap.size W (W.alloc (.cells #[.int .i64 1] 3)) := by go_grown
    have hWV1 : Below w.heap.size w (W.alloc (.cells #[.int .i64 1] 3)) := hWV.trans ((hB.mono (by omega)).trans (hWb.mono (by omega)))
    have hK1 : (W.alloc (.cells #[.int .i64 1] 3)).heap[D]? = some (.deferred (some [])) := (hWb.block _ hDW).trans hK
    have hV1s : W.heap.size < (W.alloc (.cells #[.int .i64 1] 3)).heap.size := by simp
    clear hWb
    generalize hgV : W.alloc (.cells #[.int .i64 1] 3) = V1
    rw [hgV] at it1 hWV1 hK1 hV1s
    have IT1 := Lib.hid it1
    obtain ⟨_, _, _, cB1, cG1, bT1, _⟩ := it1
    have cT1 := bT1.cell
    clear eT eC
    rw [roundsIn_succ]
    gi_wp2
    have bV1 : Below V1.heap.size V1 (V1.alloc (.cells #[.int .i64 0] 3)) := by go_grown
    refine' wpIn_rangeFunc_ownF (encs := fun x : Int => #[.int .i64 x]) (Kp := Below V1.heap.size) (S := fun xs => xs = seqI p g g) (Sp := fun pre => pre <+: seqI p g g) (N := g) rfl (by decide) (gf := 49) (lb := #[.pointer (some ⟨w1.heap.size + 1 + 1, 0, none⟩), .pointer (some ⟨w1.heap.size + 1, 0, none⟩)]) rfl trivial (enters_of Try.func49 (by kernel_rfl) rfl)
      (w0 := V1.alloc (.cells #[.int .i64 0] 3))
      (fun l J Jx W hW _ _ hY h0 => seq1_in (Below V1.heap.size) l (w1.heap.size + 1) (w1.heap.size + 2) p g HG.out J Jx (fun W1 W2 hh => ⟨hh.cell (p := ⟨w1.heap.size + 1, 0, none⟩) (by show w1.heap.size + 1 < _; omega), hh.cell (p := ⟨w1.heap.size + 2, 0, none⟩) (by show w1.heap.size + 2 < _; omega)⟩) hY W ((hW.cell (p := ⟨w1.heap.size + 1, 0, none⟩) (by rw [World.size_alloc]; show w1.heap.size + 1 < _; omega)).trans ((bV1.cell (p := ⟨w1.heap.size + 1, 0, none⟩) (by show w1.heap.size + 1 < _; omega)).trans cB1)) ((hW.cell (p := ⟨w1.heap.size + 2, 0, none⟩) (by rw [World.size_alloc]; show w1.heap.size + 2 < _; omega)).trans ((bV1.cell (p := ⟨w1.heap.size + 2, 0, none⟩) (by show w1.heap.size + 2 < _; omega)).trans cG1)) h0)
      belowK_t (belowK_b (by simp)) (Below.refl _ _) (fun _ => rfl)
      (fun pre W => (Boxed W V1.heap.size 3 (.int .i64 (pre.length : Int)) ∧ Below V1.heap.size V1 W))
      (fun _ pre _ => Off2 p g pre)
      (OwnFrom.and (Own.from (boxed_own _ _ (fun pre : List Int => .int .i64 (pre.length : Int))) _) (ownFrom_below (by simp) (by simp)))
      (fun c => ownFrom_pure _ _)
      ⟨Boxed.new _ _ _, by go_grown⟩
      _ ?assign5 ?body5 ?done5 ?stop5
    case assign5 =>
      intro l x W K hK
      gi_wp2
      exact hK
    case body5 =>
      rintro l pre x W ⟨hC, hB⟩ hlt
      have hpl : pre.length < g := hlt
      obtain ⟨dN, dR, dW, _, _, dT, dC, _⟩ := IT1.out.below hB
      have eR := dR.cell
      have fR := dR.frozen
      have eT := dT.cell
      have eC := hC.cell
      have fC := hC.frozen
      have eX := dC pre.length hpl
      clear dC
      by_cases hv : atI p g (pre.length : Int) = x
      · rw [hv] at eX
        gi_wp2
        refine ⟨KeepsOthers.setCell _ _ _, ?_, ?_, ?_⟩
        · exact (Below.refl _ W).setCell (p := ⟨V1.heap.size, 0, none⟩) (Nat.le_refl _) _
        · rw [List.length_append, List.length_singleton]; exact hC.set (.int .i64 ((pre.length : Int) + 1))
        · exact hB.setCell (p := ⟨V1.heap.size, 0, none⟩) (Nat.le_refl _) _
      · have HO : Hid (Off2 p g (pre ++ [x])) := Lib.hid ⟨pre, x, rfl, .inr hv⟩
        have hv2 : x ≠ atI p g (pre.length : Int) := fun h => hv h.symm
        generalize atI p g (pre.length : Int) = y at *
        have hv3 : (x != y) = true := by simp [bne, hv2]
        gi_wp2
        exact ⟨KeepsOthers.setCell _ _ _, HO.out⟩
    case stop5 =>
      rintro D c pre W hD hp h3 hK
      exact absurd h3 (off2_never p g pre hp)
    case done5 =>
      rintro D2 ys W2 hD2 rfl ⟨hC, hB2⟩ hK2
      rw [seqI_len] at hC
      obtain ⟨dN, dR, dW, _, _, dT, dC, _⟩ := IT1.out.below hB2
      have eT := dT.cell
      have eC := hC.cell
      clear dC
      gi_wp2
      have hV3 : Below W2.heap.size W2 (W2.alloc (.cells #[.int .i64 2] 3)) := by go_grown
      have hT3 : (W2.alloc (.cells #[.int .i64 2] 3)).cell? ⟨W2.heap.size, 0, none⟩ = some (.int .i64 2) := (Boxed.new W2 3 (.int .i64 2)).cell
      generalize hgV3 : W2.alloc (.cells #[.int .i64 2] 3) = V3
      rw [hgV3] at hV3 hT3
      rw [roundsIn_succ]
      have hR3 : Boxed V3 (w.heap.size + 1) 4 (.bool false) := (hV3.block _ dR.lt).trans dR
      have eR := hR3.cell
      have fR := hR3.frozen
      gi_wp2_with (refine ⟨trivial, ?_⟩; gi_at_call 17; refine (callsIn_wide.2 (known_any _)).mono ?_; rintro e w9 ⟨rfl, b9⟩; have hf9 := (b9.frozen (p := ⟨w.heap.size + 1, 0, none⟩) hR3.lt).trans fR; have hc9 := (b9.cell (p := ⟨w.heap.size + 1, 0, none⟩) hR3.lt).trans eR)
      have hW3 : Below w.heap.size w V3 := hWV1.trans ((hB2.mono (by omega)).trans (hV3.mono (by omega)))
      have hB2s := hB2.size
      have hKa : V3.heap[D]? = some (.deferred (some [])) := (hV3.block _ (by omega)).trans ((hB2.block _ (by omega)).trans hK1)
      have hKb : V3.heap[D2]? = some (.deferred (some [])) := (hV3.block _ (Array.getElem?_eq_some_iff.1 hK2).1).trans hK2
      have hD2' : V1.heap.size < D2 := by simp only [World.size_alloc] at hD2; omega
      obtain ⟨k1, k2, k3, k4⟩ := finish2 (.bool true) (by omega : D ≠ w.heap.size + 1) (by omega : D2 ≠ w.heap.size + 1) (by omega) hW3 b9 (by omega) hR3 hKa hKb (by omega) (by omega)
      refine ⟨by simp, .inl ⟨_, _, rfl, run_takeDeferred k1, ?_⟩⟩
      refine ⟨by simp, .inl ⟨_, _, rfl, run_takeDeferred k2, ?_⟩⟩
      exact ⟨.bool true, by simp [results, Try.results6, go_sem, k3], rfl, k4⟩
theorem iterates_off (p g n : Int) (h : pow2 g = false ∨ 4096 < g) (w : World) :
    Calls Try.prog 6 #[.int .u64 p, .int .i64 g, .int .i64 n] w fun e w' => e = .returned (.bool true) ∧ Below w.heap.size w w' := by
  rcases hg : pow2 g with _ | _
  · have HG := Lib.hid hg
    clear hg h
    go_enter Try.func6, Try.ntmps6
    go_wp2_with fail
    refine (rvalid_any g _).mono ?_
    rintro e w1 ⟨rfl, rfl⟩
    rw [HG.out]
    go_wp2_with fail
    refine (known_any _).mono ?_
    rintro e w3 ⟨rfl, b3⟩
    have hc := cell_of b3 (p := w.heap.size + 1) (o := 0) (v := .bool false) (by simp) (by simp [go_sem])
    have hf := free_of b3 (p := w.heap.size + 1) (o := 0) (v := false) (by simp) (by simp [go_sem])
    go_wp2_with fail
    have hc2 : (w3.setCell ⟨w.heap.size + 1, 0, none⟩ (.bool true)).cell? ⟨w.heap.size + 1, 0, none⟩ = some (.bool true) := World.cell?_setCell_same' _ _ _ (by rw [hc]; rfl)
    refine bodyPost_ret (v := .bool true) (by simp [results, Try.results6, go_sem, hc2]) rfl ?_
    exact ⟨rfl, ((by go_grown : Below w.heap.size w ((w.alloc (.cells #[.int .i64 n] 3)).alloc (.cells #[.bool false] 4))).trans (b3.mono (by simp; omega))).setCell (p := ⟨w.heap.size + 1, 0, none⟩) (by show w.heap.size ≤ w.heap.size + 1; omega) _⟩
  · have h4 : 4096 < g := by simpa [hg] using h
    have HG := Lib.hid hg
    clear hg h
    go_enter Try.func6, Try.ntmps6
    go_wp2_with fail
    refine (rvalid_any g _).mono ?_
    rintro e w1 ⟨rfl, rfl⟩
    rw [HG.out]
    go_wp2_with fail
    refine (known_any _).mono ?_
    rintro e w3 ⟨rfl, b3⟩
    have hc := cell_of b3 (p := w.heap.size + 1) (o := 0) (v := .bool false) (by simp) (by simp [go_sem])
    have hf := free_of b3 (p := w.heap.size + 1) (o := 0) (v := false) (by simp) (by simp [go_sem])
    go_wp2_with fail
    have hc2 : (w3.setCell ⟨w.heap.size + 1, 0, none⟩ (.bool true)).cell? ⟨w.heap.size + 1, 0, none⟩ = some (.bool true) := World.cell?_setCell_same' _ _ _ (by rw [hc]; rfl)
    refine bodyPost_ret (v := .bool true) (by simp [results, Try.results6, go_sem, hc2]) rfl ?_
    exact ⟨rfl, ((by go_grown : Below w.heap.size w ((w.alloc (.cells #[.int .i64 n] 3)).alloc (.cells #[.bool false] 4))).trans (b3.mono (by simp; omega))).setCell (p := ⟨w.heap.size + 1, 0, none⟩) (by show w.heap.size ≤ w.heap.size + 1; omega) _⟩
theorem iterates_any (p g n : Int) (p0 : 0 ≤ p) (p1 : p ≤ 18446744073709551615) (w : World) :
    Calls Try.prog 6 #[.int .u64 p, .int .i64 g, .int .i64 n] w fun e w' => e = .returned (.bool true) ∧ Below w.heap.size w w' := by
  by_cases h : pow2 g = false ∨ 4096 < g
  · exact iterates_off p g n h w
  · have hg : pow2 g = true := by simpa using (fun h1 => h (.inl h1) : ¬ pow2 g = false)
    obtain ⟨a1, _⟩ := pow2_range _ hg
    obtain ⟨gn, rfl⟩ := Int.eq_ofNat_of_zero_le (by omega : 0 ≤ g)
    exact iterates_ok p gn hg (by omega) p0 p1 n w
end Go.Proofs.Ytdilhldaipjhoaa.Probe
