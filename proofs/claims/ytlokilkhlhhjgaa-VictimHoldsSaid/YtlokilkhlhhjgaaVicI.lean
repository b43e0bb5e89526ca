/-
  Victims (layer 18): a row that is written; slices.DeleteFunc.
-/
import Derived.Test.YtlokilkhlhhjgaaVicH
set_option linter.unusedVariables false
set_option linter.unusedSimpArgs false
namespace Go.Proofs.Ytlokilkhlhhjgaa.Vic
open Go Go.RowKit Kit
theorem cellsW_set (p : Wg) : ∀ (l : List Wg) (i : Nat), cellsW (l.set i p) = ((cellsW l).set (i * 2) (.int .u32 p.1)).set (i * 2 + 1) (.int .i64 p.2) := by
  intro l
  induction l with
  | nil => intro i; simp [cellsW]
  | cons x l ih =>
    intro i
    cases i with
    | zero => simp [cellsW]
    | succ i =>
      rw [show (i + 1) * 2 = i * 2 + 2 from by omega]
      simp only [List.set_cons_succ, cellsW, ih i]
def Wr (w : World) (g cap : Nat) (lc : List Wg) : Prop := ∃ cur, w.heap[g]? = some (.cells cur 34 (0, 0)) ∧ cur.size = cap * 2 ∧ lc.length ≤ cap ∧ cap ≤ maxLen ∧ cur.toList.take (lc.length * 2) = cellsW lc
theorem Wr.ow {w : World} {g cap B : Nat} {lc : List Wg} (h : Wr w g cap lc) (hb : B ≤ g) : Ow w B (.slice (some ⟨g, 0, none⟩) lc.length cap) lc := by
  obtain ⟨cur, h1, h2, h3, h4, h5⟩ := h
  exact ⟨cellsW_len lc, .inr ⟨g, cap, cur, rfl, hb, h1, h3, h4, h2, h5⟩⟩
theorem Wr.of {w : World} {g n cap B : Nat} {lc : List Wg} (h : Ow w B (.slice (some ⟨g, 0, none⟩) n cap) lc) : Wr w g cap lc ∧ B ≤ g ∧ lc.length = n := by
  obtain ⟨hx, ⟨hv, hn⟩ | ⟨g', cap', cur, hv, hb, hg, hc, hm, hs, ht⟩⟩ := h
  · cases hv
  · cases hv
    exact ⟨⟨cur, hg, hs, hc, hm, ht⟩, hb, rfl⟩
theorem Wr.set {w : World} {g cap i : Nat} {lc : List Wg} (h : Wr w g cap lc) (hi : i < lc.length) (p : Wg) : Wr ((w.setCell ⟨g, i * 2, none⟩ (.int .u32 p.1)).setCell ⟨g, i * 2 + 1, none⟩ (.int .i64 p.2)) g cap (lc.set i p) := by
  obtain ⟨cur, h1, h2, h3, h4, h5⟩ := h
  have e1 : (w.setCell ⟨g, i * 2, none⟩ (.int .u32 p.1)).heap[g]? = some (.cells (cur.setIfInBounds (i * 2) (.int .u32 p.1)) 34 (0, 0)) := by
    rw [setCell_eq_setRow w g (i * 2) cur _ (0, 0) _ h1]; exact setRow_heap w g cur _ _ _ h1
  have e2 : ((w.setCell ⟨g, i * 2, none⟩ (.int .u32 p.1)).setCell ⟨g, i * 2 + 1, none⟩ (.int .i64 p.2)).heap[g]? = some (.cells ((cur.setIfInBounds (i * 2) (.int .u32 p.1)).setIfInBounds (i * 2 + 1) (.int .i64 p.2)) 34 (0, 0)) := by
    rw [setCell_eq_setRow _ g (i * 2 + 1) _ _ (0, 0) _ e1]; exact setRow_heap _ g _ _ _ _ e1
  refine ⟨_, e2, by simp [h2], by rw [List.length_set]; exact h3, h4, ?_⟩
  rw [List.length_set, cellsW_set, ← h5]
  simp only [Array.toList_setIfInBounds, List.take_set]
theorem Wr.cut {w w' : World} {g cap i B : Nat} {lc : List Wg} (h : Wr w g cap lc) (hi : i ≤ lc.length) (hb : B ≤ g) (hc : ∀ cur, w.heap[g]? = some (.cells cur 34 (0, 0)) → ∃ cur', w'.heap[g]? = some (.cells cur' 34 (0, 0)) ∧ cur'.size = cur.size ∧ cur'.toList.take (i * 2) = cur.toList.take (i * 2)) :
    Ow w' B (.slice (some ⟨g, 0, none⟩) i cap) (lc.take i) := by
  obtain ⟨cur, h1, h2, h3, h4, h5⟩ := h
  obtain ⟨cur', c1, c2, c3⟩ := hc cur h1
  have hl : (lc.take i).length = i := by rw [List.length_take]; omega
  refine ⟨by rw [cellsW_len], .inr ⟨g, cap, cur', by rw [hl], hb, c1, by rw [hl]; omega, h4, by rw [c2, h2], ?_⟩⟩
  rw [hl, c3]
  have : cellsW lc = cellsW (lc.take i) ++ cellsW (lc.drop i) := by rw [← cellsW_append, List.take_append_drop]
  rw [this] at h5
  have h6 := congrArg (fun (x : List Value) => x.take (i * 2)) h5
  simp only [List.take_take] at h6
  rw [Nat.min_eq_left (by omega)] at h6
  rw [h6, List.take_append_of_le_length (by rw [cellsW_len, hl]; omega), List.take_of_length_le (by rw [cellsW_len, hl]; omega)]
end Go.Proofs.Ytlokilkhlhhjgaa.Vic
