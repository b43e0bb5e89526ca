/-
  Walks over the reference of layer 34: filters that are joined, new filters.
-/
import Derived.Test.YtohldfhelppehaaBloK
set_option linter.unusedVariables false
set_option linter.unusedSimpArgs false
namespace Go.Proofs.Ytohldfhelppehaa.Blo
open Go.RowKit Kit Hash
theorem join_row {wr : World} {g m j : Nat} {s s2 : Nat → Bool} (h : Rr wr g m (fun k => s k || (decide (k < j) && s2 k))) {v : Bool} (hv : v = (s j || s2 j)) :
    Rr (wr.setCell ⟨g, j, none⟩ (.bool v)).drew g m (fun k => s k || (decide (k < j + 1) && s2 k)) := by
  refine Row.of_block (W := wr.setCell ⟨g, j, none⟩ (.bool v)) ((h.set j (.bool v)).congr fun i hi => ?_) rfl
  by_cases h1 : i = j
  · subst h1; simp [hv]
  · have h2 : decide (i < j + 1) = decide (i < j) := by
      by_cases h3 : i < j
      · have h4 : i < j + 1 := by omega
        simp [h3, h4]
      · have h4 : ¬ i < j + 1 := by omega
        simp [h3, h4]
    simp [h1, h2]
set_option maxRecDepth 100000 in
set_option maxHeartbeats 4000000 in
theorem rjoin_ok {W : World} {r n c r2 c2 : Nat} {hs sd : Int} {s s2 : Nat → Bool} (h : Rr W r (64 * n) s) (h' : Rr W r2 (64 * n) s2) (n1 : 1 ≤ n) (n2 : n ≤ 16384) :
    Calls Try.prog 25 #[rf hs sd r (64 * n) c, rf hs sd r2 (64 * n) c2] W fun e w' => ∃ r' c', e = .returned (.tuple #[rf hs sd r' (64 * n) c', .int .i64 0]) ∧ Rr w' r' (64 * n) (fun k => s k || s2 k) ∧ W.heap.size ≤ r' ∧ Below W.heap.size W w' := by
  have HR := Lib.hid h
  have HR' := Lib.hid h'
  obtain ⟨i0, hi, hzz⟩ := Option.map_eq_some_iff.1 info_bool
  simp only [Prod.mk.injEq] at hzz
  obtain ⟨hz0, hz1, hz2⟩ := hzz
  have hb1 : Below W.heap.size W (((W.alloc (rfO hs sd r (64 * n) c)).alloc (rfO hs sd r2 (64 * n) c2)).alloc (.cells #[.int .i64 0, .int .u64 0, .slice none 0 0] 25)) := by go_grown
  have HN := Lib.hid (h.news hb1)
  have HB1 := Lib.hid hb1
  clear h h' hb1
  go_enter Try.func25, Try.ntmps25
  go_wp2_with (at_builtin; go_loud (refine wpList_append_own _ rfl (.const (.slice none 0 0)) _ 23 rfl (W.heap.size + 3) 4 i0 (.bool false) 1 1 Try.underlying23 hi hz0 hz1 hz2 rfl (by decide) _ 0 [] rfl (World.ownsRow_nil _ _ _ _) ⟨r, 0, none⟩ (64 * n) c ((List.range (64 * n)).map fun i => Value.bool (s i)) rfl (by simp) HN.out (by intro v hv; obtain ⟨x, _, rfl⟩ := List.mem_map.1 hv; rfl) (by unfold maxLen; omega) (by omega) (by simp) ?_))
  intro v' w2 hown hgrow hnil
  have b2 : Below (W.heap.size + 3) (((W.alloc (rfO hs sd r (64 * n) c)).alloc (rfO hs sd r2 (64 * n) c2)).alloc (.cells #[.int .i64 0, .int .u64 0, .slice none 0 0] 25)) w2 := (Below.refl _ _).grown hgrow (by simp) (fun k hk => by simp [Value.ownBlock] at hk)
  rcases own_row hown (by simp) with ⟨-, h0⟩ | ⟨g, c', rfl, hg, hc1, hc2, hrow⟩
  · omega
  · have hr2 : Rr w2 g (64 * n) s := hrow.congr fun i hi => by simp [List.getD, hi]
    have HR2 := Lib.hid hr2
    have HB2 := Lib.hid (HB1.out.trans (b2.mono (by omega)))
    have sz2 := b2.size
    simp only [World.size_alloc] at sz2
    have q0 : w2.heap[W.heap.size]? = some (.cells #[.int .i64 hs, .int .u64 sd, .slice (some ⟨r, 0, none⟩) (64 * n) c] 25 (0, 0)) :=
      (b2.block _ (by omega)).trans ((Below.heap_alloc _ _ _ (by simp; omega)).trans ((Below.heap_alloc _ _ _ (by simp)).trans (MapKept.heap_alloc W _).1))
    have q1 : w2.heap[W.heap.size + 1]? = some (.cells #[.int .i64 hs, .int .u64 sd, .slice (some ⟨r2, 0, none⟩) (64 * n) c2] 25 (0, 0)) := by
      have := (MapKept.heap_alloc (W.alloc (rfO hs sd r (64 * n) c)) (rfO hs sd r2 (64 * n) c2)).1
      rw [World.size_alloc] at this
      exact (b2.block _ (by omega)).trans ((Below.heap_alloc _ _ _ (by simp)).trans this)
    have q2 : w2.heap[W.heap.size + 2]? = some (.cells #[.int .i64 0, .int .u64 0, .slice none 0 0] 25 (0, 0)) := by
      have := (MapKept.heap_alloc ((W.alloc (rfO hs sd r (64 * n) c)).alloc (rfO hs sd r2 (64 * n) c2)) (.cells #[.int .i64 0, .int .u64 0, .slice none 0 0] 25)).1
      simp only [World.size_alloc] at this
      exact (b2.block _ (by omega)).trans this
    have d2 : w2.cell? ⟨W.heap.size, 2, none⟩ = some (.slice (some ⟨r, 0, none⟩) (64 * n) c) := by simp [World.cell?, q0]
    have e2 : w2.frozen? ⟨W.heap.size, 2, none⟩ = false := by simp [World.frozen?, q0]
    have Q := Lib.hid (And.intro q0 (And.intro q1 q2))
    clear q0 q1 q2 hrow hr2 hown hgrow hnil b2
    go_wp2_with fail
    have hw3 : But W.heap.size w2 (w2.setCell ⟨W.heap.size, 2, none⟩ (.slice (some ⟨g, 0, none⟩) (64 * n) c')) := (But.refl _ _).setCell _
    have hg4 : g < w2.heap.size := HR2.out.lt
    have hr4 : Rr (w2.setCell ⟨W.heap.size, 2, none⟩ (.slice (some ⟨g, 0, none⟩) (64 * n) c')) g (64 * n) s := HR2.out.but hw3 (by omega)
    have a0 : w2.cell? ⟨W.heap.size, 0, none⟩ = some (.int .i64 hs) := by simp [World.cell?, Q.out.1]
    have a1 : w2.cell? ⟨W.heap.size, 1, none⟩ = some (.int .u64 sd) := by simp [World.cell?, Q.out.1]
    have y0 : (w2.setCell ⟨W.heap.size, 2, none⟩ (.slice (some ⟨g, 0, none⟩) (64 * n) c')).cell? ⟨W.heap.size, 0, none⟩ = some (.int .i64 hs) := by simp [go_sem, a0]
    have y1 : (w2.setCell ⟨W.heap.size, 2, none⟩ (.slice (some ⟨g, 0, none⟩) (64 * n) c')).cell? ⟨W.heap.size, 1, none⟩ = some (.int .u64 sd) := by simp [go_sem, a1]
    have y2 : (w2.setCell ⟨W.heap.size, 2, none⟩ (.slice (some ⟨g, 0, none⟩) (64 * n) c')).cell? ⟨W.heap.size, 2, none⟩ = some (.slice (some ⟨g, 0, none⟩) (64 * n) c') := World.cell?_setCell_same' _ _ _ (by rw [d2]; rfl)
    have p1 := (hw3.block (W.heap.size + 1) (by omega) (by omega)).trans Q.out.2.1
    have p2 := (hw3.block (W.heap.size + 2) (by omega) (by omega)).trans Q.out.2.2
    have s3 : (w2.setCell ⟨W.heap.size, 2, none⟩ (.slice (some ⟨g, 0, none⟩) (64 * n) c')).heap.size = w2.heap.size := by simp
    have HBW := Lib.hid (HB2.out.trans (hw3.below (Nat.le_refl _) (by omega)))
    generalize w2.setCell ⟨W.heap.size, 2, none⟩ (.slice (some ⟨g, 0, none⟩) (64 * n) c') = w3 at *
    have HR4 := Lib.hid hr4
    have HY := Lib.hid (And.intro y0 (And.intro y1 (And.intro y2 (And.intro p1 p2))))
    clear hr4 y0 y1 y2 p1 p2 a0 a1 hw3 d2 e2 Q HR2 HB2
    go_loopw [6] (fun i wr => ∃ j : Nat, j ≤ 64 * n ∧ i = .int .i64 j ∧ Rr wr g (64 * n) (fun k => s k || (decide (k < j) && s2 k)) ∧ But g w3 wr) (fun i _ => 64 * n - (intOf i).toNat)
    case atStart => exact ⟨0, by omega, rfl, HR4.out.congr fun i _ => by simp, But.refl _ _⟩
    case round =>
      obtain ⟨j, hj, rfl, hR, hB⟩ := hrel
      have HRR := Lib.hid hR
      have HBB := Lib.hid hB
      obtain ⟨y0, y1, y2, p1, p2⟩ := HY.out
      have u0 := (World.cell?_of_block (w := w3) (hB.block W.heap.size (by omega) (by omega)) : wr.cell? ⟨W.heap.size, 0, none⟩ = _).trans y0
      have u1 := (World.cell?_of_block (w := w3) (hB.block W.heap.size (by omega) (by omega)) : wr.cell? ⟨W.heap.size, 1, none⟩ = _).trans y1
      have u2 := (World.cell?_of_block (w := w3) (hB.block W.heap.size (by omega) (by omega)) : wr.cell? ⟨W.heap.size, 2, none⟩ = _).trans y2
      have x1 := (hB.block (W.heap.size + 1) (by omega) (by omega)).trans p1
      have x2 := (hB.block (W.heap.size + 2) (by omega) (by omega)).trans p2
      have t2 : wr.cell? ⟨W.heap.size + 1, 2, none⟩ = some (.slice (some ⟨r2, 0, none⟩) (64 * n) c2) := by simp [World.cell?, x1]
      clear hR hB y0 y1 y2 p1 p2 x1
      by_cases hlt : j < 64 * n
      · have kg : wr.cell? ⟨g, j, none⟩ = some (.bool (s j)) := by have := HRR.out.cell j hlt; simpa using this
        have fg := HRR.out.fr j
        have hr2l := HR'.out.lt
        have k2 := ((HR'.out.below HBW.out).but HBB.out (by omega)).cell j hlt
        have hlt2 : (j : Int) < 64 * (n : Int) := by omega
        have HSET := Lib.hid (HRR.out.set j (.bool (s j || s2 j)))
        clear x2 u0 u1
        cases hs0 : s j
        · rw [hs0] at kg
          go_wp2_with fail
          go_region
          all_goals go_wp2_with fail
          all_goals exact ⟨⟨j + 1, by omega, by go_num, join_row HRR.out (by simp [hs0]), (HBB.out.setCell _).tr (Below.drew (Below.refl _ _))⟩, by simp [intOf] <;> omega⟩
        · rw [hs0] at kg
          go_wp2_with fail
          go_region
          all_goals go_wp2_with fail
          all_goals exact ⟨⟨j + 1, by omega, by go_num, join_row HRR.out (by simp [hs0]), (HBB.out.setCell _).tr (Below.drew (Below.refl _ _))⟩, by simp [intOf] <;> omega⟩
      · obtain rfl : j = 64 * n := by omega
        have hlt2 : ¬ (((64 * n : Nat) : Int) < 64 * (n : Int)) := by omega
        have y0 : wr.cell? ⟨W.heap.size + 2, 0, none⟩ = some (.int .i64 0) := by simp [World.cell?, x2]
        have y1 : wr.cell? ⟨W.heap.size + 2, 1, none⟩ = some (.int .u64 0) := by simp [World.cell?, x2]
        have y2 : wr.cell? ⟨W.heap.size + 2, 2, none⟩ = some (.slice none 0 0) := by simp [World.cell?, x2]
        have v0 : ∀ o, wr.frozen? ⟨W.heap.size + 2, o, none⟩ = false := fun o => by simp [World.frozen?, x2]
        go_wp2_with fail
        refine bodyPost_ret (v := .tuple #[rf hs sd g (64 * n) c', .int .i64 0]) (by simp [results, Try.results25, go_sem, y0, y1, y2]) rfl ⟨g, ⟨c', rfl⟩, ?_, by omega, ?_⟩
        · refine ((HRR.out.other (by show g ≠ W.heap.size + 1 + 1; omega) _).other (by show g ≠ W.heap.size + 1 + 1; omega) _).other (by show g ≠ W.heap.size + 1 + 1; omega) _ |>.congr fun i hi => ?_
          simp [hi]
        · exact (((HBW.out.trans (HBB.out.below (by omega) (by omega))).setCell (p := ⟨W.heap.size + 1 + 1, 0, none⟩) (by show W.heap.size ≤ W.heap.size + 1 + 1; omega) _).setCell (p := ⟨W.heap.size + 1 + 1, 1, none⟩) (by show W.heap.size ≤ W.heap.size + 1 + 1; omega) _).setCell (p := ⟨W.heap.size + 1 + 1, 2, none⟩) (by show W.heap.size ≤ W.heap.size + 1 + 1; omega) _
end Go.Proofs.Ytohldfhelppehaa.Blo
