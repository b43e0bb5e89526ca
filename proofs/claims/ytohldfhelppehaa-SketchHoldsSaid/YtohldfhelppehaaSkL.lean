/-
  Walks over package sketch: copies.
-/
import Derived.Test.YtohldfhelppehaaSkM
set_option linter.unusedVariables false
set_option linter.unusedSimpArgs false
namespace Go.Proofs.Ytohldfhelppehaa.Skt
open Go.RowKit Kit Hash Blo
theorem info_u8 : (Try.prog.info? 5).map (fun i => (i.zero, i.size, i.bytes)) = some (some (.int .u8 0), 1, 1) := by kernel_rfl
set_option maxRecDepth 100000 in
set_option maxHeartbeats 1000000 in
theorem clone8 {W : World} {q n c : Nat} {f : Nat → Nat} (hn1 : 1 ≤ n) (hn : n ≤ 65536) (h : Pr W q n f) :
    Calls Try.prog 66 #[.slice (some ⟨q, 0, none⟩) n c] W fun e w' => ∃ g c', e = .returned (.slice (some ⟨g, 0, none⟩) n c') ∧ W.heap.size ≤ g ∧ Pr w' g n f ∧ Below W.heap.size W w' := by
  have q22 : ∀ (w : World) (a : Option Addr) (n c n' c' : Nat), (binOp .eql 102 (.slice a n c) (.slice none n' c')).run Try.prog w = .ok (.bool a.isNone) w := fun w a n c n' c' => Lib.run_eql_slice_nil w _ _ a n c n' c' Try.underlying102
  have hq := h.lt
  have hnews : ∀ j u, ((List.range n).map fun i => Value.int .u8 (f i : Nat))[j]? = some u → (W.alloc (.cells #[] 5)).cell? ((⟨q, 0, none⟩ : Addr).add j) = some u := by
    intro j v hj
    have hjn : j < n := by have := (List.getElem?_eq_some_iff.1 hj).1; simpa using this
    have := (Row.alloc h (.cells #[] 5)).cell j hjn
    simp [hjn] at hj
    rw [Go.WideShapes.add_plain, Nat.zero_add, this, ← hj]
  have HS := Lib.hid hnews
  clear hnews h
  obtain ⟨i0, hi, hzz⟩ := Option.map_eq_some_iff.1 info_u8
  simp only [Prod.mk.injEq] at hzz
  obtain ⟨hz0, hz1, hz2⟩ := hzz
  go_enter Try.func66, Try.ntmps66
  go_wp2_with (at_builtin; refine wpList_append_own _ rfl _ _ 102 rfl W.heap.size 5 i0 (.int .u8 0) 1 1 Try.underlying102 hi hz0 hz1 hz2 rfl (by decide) _ _ _ rfl (World.ownsRow_made W #[] 0 (Nat.le_refl _) (Nat.zero_le _) rfl) ⟨q, 0, none⟩ n c ((List.range n).map fun i => Value.int .u8 (f i : Nat)) rfl (by simp) HS.out (by intro v hv; obtain ⟨x, _, rfl⟩ := List.mem_map.1 hv; rfl) (by unfold maxLen; omega) (by omega) (by simp) ?_)
  intro v' w1 hown hgrow hnil
  rcases own_row hown (by simp) with ⟨-, h0⟩ | ⟨g, c', rfl, hg, hc1, hc2, hrow⟩
  · omega
  · have hb : Below W.heap.size W w1 := (by go_grown : Below W.heap.size W (W.alloc (.cells #[] 5))).grown hgrow (by simp) (fun k hk => by simp [Value.ownBlock] at hk; omega)
    have hr2 : Pr w1 g n f := by
      exact hrow.congr fun i hi => by simp [List.getD, hi]
    have HR := Lib.hid hr2
    have HB := Lib.hid hb
    clear hrow hr2 hb hown hgrow hnil
    go_wp2
    go_ret
    exact ⟨g, c', rfl, hg, HR.out, HB.out⟩
theorem gO_set {w : World} {x n : Nat} {m t sd : Int} {Q C : Nat → Nat} (h : w.heap[x]? = some (gO n m t sd Q C)) (r g c' : Nat) (hr : r < 4) :
    (w.setCell ⟨x, 5 + r, none⟩ (.slice (some ⟨g, 0, none⟩) n c')).heap[x]? = some (gO n m t sd (fun i => if i = r then g else Q i) (fun i => if i = r then c' else C i)) := by
  rcases r with _ | _ | _ | _ | r
  · exact (set_block h 5 _).trans rfl
  · exact (set_block h 6 _).trans rfl
  · exact (set_block h 7 _).trans rfl
  · exact (set_block h 8 _).trans rfl
  · omega
/-- a copy, of which r rows are made -/
structure Cp (W w : World) (n : Nat) (m t sd : Int) (F : Nat → Nat → Nat) (r : Nat) (Q C : Nat → Nat) : Prop where
  o : w.heap[W.heap.size]? = some (gO n m t sd Q C)
  rr : ∀ i, i < r → Pr w (Q i) n (F i)
  ll : ∀ i, i < r → W.heap.size < Q i ∧ Q i < w.heap.size
  mm : ∀ i j, i < j → j < r → Q i < Q j
  bb : Below W.heap.size W w
theorem Cp.step {W w v : World} {n : Nat} {m t sd : Int} {F : Nat → Nat → Nat} {r : Nat} {Q C : Nat → Nat} (h : Cp W w n m t sd F r Q C) (hr : r < 4) {g c' : Nat} (hb : Below w.heap.size w v) (hg : w.heap.size ≤ g) (hrow : Pr v g n (F r)) :
    Cp W (v.setCell ⟨W.heap.size, 5 + r, none⟩ (.slice (some ⟨g, 0, none⟩) n c')) n m t sd F (r + 1) (fun i => if i = r then g else Q i) (fun i => if i = r then c' else C i) := by
  have hx : W.heap.size < w.heap.size := (Array.getElem?_eq_some_iff.1 h.o).1
  have hgl := hrow.lt
  have hs := hb.size
  refine ⟨gO_set ((hb.block _ hx).trans h.o) r g c' hr, fun i hi => ?_, fun i hi => ?_, fun i j hij hj => ?_, (tr h.bb hb).setCell (p := ⟨W.heap.size, 5 + r, none⟩) (Nat.le_refl _) _⟩
  · by_cases e : i = r
    · subst e; simp only [if_true]
      exact Row.other hrow (a := ⟨W.heap.size, 5 + i, none⟩) (by show g ≠ W.heap.size; omega) _
    · simp only [e, if_false]
      have hl := h.ll i (by omega)
      exact Row.other (Row.below (h.rr i (by omega)) hb) (a := ⟨W.heap.size, 5 + r, none⟩) (by show Q i ≠ W.heap.size; omega) _
  · by_cases e : i = r
    · simp only [e, if_true, World.size_setCell]; omega
    · simp only [e, if_false, World.size_setCell]; have := h.ll i (by omega); omega
  · have e : i ≠ r := by omega
    by_cases e2 : j = r
    · simp only [e, e2, if_false, if_true]; have := h.ll i (by omega); omega
    · simp only [e, e2, if_false]; exact h.mm i j hij (by omega)
set_option maxRecDepth 100000 in
set_option maxHeartbeats 2000000 in
theorem pcopy {W : World} {p lo hi n : Nat} {m t sd : Int} {q c : Nat → Nat} {F : Nat → Nat → Nat} (h : Skf W p lo hi n m t sd q c F) (n1 : 16 ≤ n) (n2 : n ≤ 65536) :
    Calls Try.prog 41 #[.pointer (some ⟨p, 0, none⟩)] W fun e w' => ∃ p' Q C, e = .returned (.pointer (some ⟨p', 0, none⟩)) ∧ Skf w' p' W.heap.size w'.heap.size n m t sd Q C F ∧ Below W.heap.size W w' := by
  have HZ := Lib.hid (isz h.s n1)
  have H := Lib.hid h
  have d0 := h.s.c0
  have d1 := h.s.c1
  have d2 := h.s.c2
  have d3 := h.s.c3
  have d4 := h.s.c4
  obtain ⟨d5, d6, d7, d8⟩ := h.s.rw1
  have hp := h.lt
  clear h
  go_enter Try.func41, Try.ntmps41
  go_wp2_with fail
  refine HZ.out.mono ?_
  rintro e w1 ⟨rfl, rfl⟩
  go_wp2_with fail
  have hW0 : (W.alloc (gO n m t sd q c)).heap[W.heap.size]? = some (gO n m t sd q c) := (MapKept.heap_alloc W _).1
  have P0 := Lib.hid (show Cp W (W.alloc (gO n m t sd q c)) n m t sd F 0 q c from ⟨hW0, fun i hi => by omega, fun i hi => by omega, fun i j _ hj => by omega, by go_grown⟩)
  clear hW0 d0 d1 d2 d3 d4 d5 d6 d7 d8
  go_loopw [15] (fun i wr => ∃ (r : Nat) (Q C : Nat → Nat), r ≤ 4 ∧ i = .int .i64 r ∧ Cp W wr n m t sd F r Q C) (fun i _ => 4 - (intOf i).toNat)
  case atStart => exact ⟨0, q, c, by omega, rfl, P0.out⟩
  case round =>
    clear P0
    obtain ⟨r, Q, C, hr, rfl, hS⟩ := hrel
    have S1 := Lib.hid hS
    have hsw := hS.bb.size
    clear hS
    by_cases hr4 : r < 4
    · have hix := fun w => ixs w q c n r hr4
      have HC := Lib.hid (clone8 (c := c r) (by omega) n2 (Row.below (H.out.r r hr4) S1.out.bb))
      have hxl : W.heap.size < wr.heap.size := (Array.getElem?_eq_some_iff.1 S1.out.o).1
      go_wp2_with fail
      refine HC.out.mono ?_
      rintro e w2 ⟨g, c', rfl, hg, hrow, b2⟩
      have S2 := Lib.hid (S1.out.step hr4 (c' := c') b2 hg hrow)
      have hxl2 : W.heap.size < w2.heap.size := by have := b2.size; omega
      have hfr : w2.frozen? ⟨W.heap.size, 5 + r, none⟩ = false := by
        unfold World.frozen?
        rw [show w2.heap[W.heap.size]? = some (gO n m t sd Q C) from (b2.block _ hxl).trans S1.out.o]; rfl
      have hcl : w2.cell? ⟨W.heap.size, 5 + r, none⟩ = some (.slice (some ⟨Q r, 0, none⟩) n (C r)) := by
        unfold World.cell?
        rw [show w2.heap[W.heap.size]? = some (gO n m t sd Q C) from (b2.block _ hxl).trans S1.out.o]
        rcases r with _ | _ | _ | _ | r
        · rfl
        · rfl
        · rfl
        · rfl
        · omega
      clear b2 hg hrow S1
      go_wp2_with fail
      go_roundw
      case rel => exact ⟨r + 1, _, _, by omega, by go_num, S2.out⟩
      case measure => simp [intOf] <;> omega
    · obtain rfl : r = 4 := by omega
      go_wp2_with fail
      go_ret
      have l0 := S1.out.ll 0 (by decide)
      have l3 := S1.out.ll 3 (by decide)
      exact ⟨W.heap.size, Q, C, rfl, ⟨S1.out.o, S1.out.rr, Nat.le_refl _, l0.1, S1.out.mm 0 1 (by decide) (by decide), S1.out.mm 1 2 (by decide) (by decide), S1.out.mm 2 3 (by decide) (by decide), l3.2, Nat.le_refl _⟩, S1.out.bb⟩
end Go.Proofs.Ytohldfhelppehaa.Skt
