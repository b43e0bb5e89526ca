/-
  Second chance (layer 31): the reference's copy.
-/
import Derived.Test.YteppcjolgpdenaaSeqL
import Derived.Deep.AppendLies
set_option linter.unusedVariables false
set_option linter.unusedSimpArgs false
namespace Go.Proofs.Yteppcjolgpdenaa.Seq
open Go Go.RowKit Kit Go.Maps
/-- the cells of places -/
def cellsL : List Pl → List Value
  | [] => []
  | p :: l => .int .u32 p.k :: .bool p.f :: .bool p.m :: cellsL l
theorem cellsL_len (l : List Pl) : (cellsL l).length = l.length * 3 := by
  induction l with
  | nil => rfl
  | cons p l ih => simp only [cellsL, List.length_cons, ih]; omega
theorem cellsL_at {l : List Pl} : ∀ {i : Nat} {p : Pl}, l[i]? = some p → (cellsL l)[i * 3]? = some (.int .u32 p.k) ∧ (cellsL l)[i * 3 + 1]? = some (.bool p.f) ∧ (cellsL l)[i * 3 + 2]? = some (.bool p.m) := by
  induction l with
  | nil => intro i p h; simp at h
  | cons x l ih =>
    intro i p h
    cases i with
    | zero => simp at h; subst h; exact ⟨rfl, rfl, rfl⟩
    | succ i =>
      have := ih (i := i) (p := p) (by simpa using h)
      rw [show (i + 1) * 3 = i * 3 + 3 from by omega]
      exact this
theorem cellsL_of {l : List Pl} : ∀ {j : Nat} {u : Value}, (cellsL l)[j]? = some u → ∃ i p, l[i]? = some p ∧ ((j = i * 3 ∧ u = .int .u32 p.k) ∨ (j = i * 3 + 1 ∧ u = .bool p.f) ∨ (j = i * 3 + 2 ∧ u = .bool p.m)) := by
  induction l with
  | nil => intro j u h; simp [cellsL] at h
  | cons x l ih =>
    intro j u h
    match j, h with
    | 0, h => exact ⟨0, x, rfl, .inl ⟨rfl, by simpa [cellsL] using h.symm⟩⟩
    | 1, h => exact ⟨0, x, rfl, .inr (.inl ⟨rfl, by simpa [cellsL] using h.symm⟩)⟩
    | 2, h => exact ⟨0, x, rfl, .inr (.inr ⟨rfl, by simpa [cellsL] using h.symm⟩)⟩
    | j + 3, h =>
      obtain ⟨i, p, h1, h2⟩ := ih (j := j) (u := u) (by simpa [cellsL] using h)
      refine ⟨i + 1, p, by simpa using h1, ?_⟩
      rcases h2 with ⟨h2, h3⟩ | ⟨h2, h3⟩ | ⟨h2, h3⟩
      · exact .inl ⟨by omega, h3⟩
      · exact .inr (.inl ⟨by omega, h3⟩)
      · exact .inr (.inr ⟨by omega, h3⟩)
theorem cellsL_one (l : List Pl) : ∀ u ∈ cellsL l, u.oneCell' = true := by
  induction l with
  | nil => intro u h; simp [cellsL] at h
  | cons x l ih =>
    intro u h
    simp only [cellsL, List.mem_cons] at h
    rcases h with rfl | rfl | rfl | h
    · rfl
    · rfl
    · rfl
    · exact ih u h
theorem addp (b j : Nat) : ({ block := b, off := 0, spot := none } : Addr).add j = ⟨b, j, none⟩ := by
  unfold Addr.add
  split
  · next h => rw [h]
  · simp
theorem Rw.news {W : World} {q : Nat} {l : List Pl} (h : Rw W q l) (j : Nat) (u : Value) (hj : (cellsL l)[j]? = some u) : W.cell? ((⟨q, 0, none⟩ : Addr).add j) = some u := by
  obtain ⟨i, p, h1, h2⟩ := cellsL_of hj
  obtain ⟨e0, e1, e2, -⟩ := h.at_ h1
  rw [addp]
  rcases h2 with ⟨rfl, rfl⟩ | ⟨rfl, rfl⟩ | ⟨rfl, rfl⟩
  · exact e0
  · exact e1
  · exact e2
theorem rw_own {w : World} {base : Nat} {e : TypeId} {v : Value} {n : Nat} {l : List Pl} (h : w.ownsRow base e 3 v n (cellsL l)) (hl : l.length = n) (h1 : 1 ≤ n) : ∃ g cap, v = .slice (some ⟨g, 0, none⟩) n cap ∧ Rw w g l ∧ base ≤ g ∧ n ≤ cap ∧ cap ≤ maxLen := by
  obtain ⟨_, ⟨hv, hn⟩ | ⟨g, cap, cur, hv, hb, hg, hc, hm, hs, ht⟩⟩ := h
  · omega
  · refine ⟨g, cap, hv, ⟨cur, e, hg, fun i p hp => ?_⟩, hb, hc, hm⟩
    have hi := (List.getElem?_eq_some_iff.1 hp).1
    obtain ⟨a0, a1, a2⟩ := cellsL_at hp
    rw [← ht] at a0 a1 a2
    rw [List.getElem?_take_of_lt (by omega)] at a0 a1 a2
    exact ⟨by simpa using a0, by simpa using a1, by simpa using a2⟩
theorem rplace_info : (Try.prog.info? 75).map (fun i => (i.size, i.bytes, i.zero)) = some (3, 8, some (.agg #[.int .u32 0, .bool false, .bool false])) := by kernel_rfl
theorem info_parts3 {t : TypeId} {b s : Nat} {z : Value} (h : (Try.prog.info? t).map (fun i => (i.size, i.bytes, i.zero)) = some (s, b, some z)) : ∃ i, Try.prog.info? t = some i ∧ i.zero = some z ∧ i.size = s ∧ i.bytes = b := by
  cases hi : Try.prog.info? t with
  | none => rw [hi] at h; simp at h
  | some i => rw [hi] at h; simp at h; exact ⟨i, rfl, h.2.2, h.1, h.2.1⟩
set_option maxRecDepth 100000 in
set_option maxHeartbeats 1000000 in
theorem rcopy_any {W : World} {q cap : Nat} {l : List Pl} (H : Rw W q l) (h1 : 1 ≤ l.length) (h2 : l.length ≤ 1024) (hd : Int) :
    Calls Try.prog 32 #[.agg #[.slice (some ⟨q, 0, none⟩) l.length cap, .int .i64 hd]] W fun e w' => ∃ g cap', e = .returned (.agg #[.slice (some ⟨g, 0, none⟩) l.length cap', .int .i64 hd]) ∧ Rw w' g l ∧ W.heap.size ≤ g ∧ Below W.heap.size W w' := by
  obtain ⟨i0, hi0, hz0, hz1, hz2⟩ := info_parts3 rplace_info
  have HR := Lib.hid H
  have HNW := Lib.hid (fun w' (hb : Below W.heap.size W w') => (H.of (hb.block q H.lt)).news)
  have hcl := cellsL_len l
  clear H
  obtain ⟨n, hn⟩ : ∃ n, l.length = n := ⟨_, rfl⟩
  rw [hn] at h1 h2 hcl ⊢
  have HN := Lib.hid hn
  clear hn
  go_enter Try.func32, Try.ntmps32
  go_wp2_with fail
  go_region_held3 (fun w' => w'.cell? ⟨W.heap.size, 0, none⟩ = some (.slice (some ⟨q, 0, none⟩) n cap) ∧ w'.cell? ⟨W.heap.size, 1, none⟩ = some (.int .i64 hd))
    (first
      | go_keep
      | (go_split_ands
         refine ⟨?_, ?_⟩ <;> (rw [hgrow.cell_far _ (by simp; omega) (by simp [Value.ownBlock])]; simp [go_sem])))
    ((refine step_append_lies _ (by rfl) _ _ _ (by rfl) W.heap.size 75 i0 (.agg #[.int .u32 0, .bool false, .bool false]) 3 8 Try.underlying28 hi0 hz0 hz1 hz2 rfl (by decide) (.slice none 0 0) 0 [] (by rfl) (World.ownsRow_nil _ _ _ _)
        ⟨q, 0, none⟩ n cap (cellsL l) (by rfl) hcl (HNW.out _ (by go_grown)) (cellsL_one l)
        h1 (by unfold maxLen; omega) (by omega) (by simp; omega) (W.heap.size + 2) (by simp) ?_; intro g cap' w1 hown hgrow hat hlt; have f0 : w1.cell? ⟨W.heap.size + 1, 0, none⟩ = some (.slice none 0 0) := (hgrow.cell_far ⟨W.heap.size + 1, 0, none⟩ (by simp) (by simp [Value.ownBlock])).trans (by simp [go_sem]); have f1 : w1.cell? ⟨W.heap.size + 1, 1, none⟩ = some (.int .i64 0) := (hgrow.cell_far ⟨W.heap.size + 1, 1, none⟩ (by simp) (by simp [Value.ownBlock])).trans (by simp [go_sem]); have g0 : w1.frozen? ⟨W.heap.size + 1, 0, none⟩ = false := (hgrow.frozen_far ⟨W.heap.size + 1, 0, none⟩ (by simp) (by simp [Value.ownBlock])).trans (by simp [go_sem]); have g1 : w1.frozen? ⟨W.heap.size + 1, 1, none⟩ = false := (hgrow.frozen_far ⟨W.heap.size + 1, 1, none⟩ (by simp) (by simp [Value.ownBlock])).trans (by simp [go_sem])))
  go_wp2_with fail
  refine bodyPost_ret (v := .agg #[.slice (some ⟨g, 0, none⟩) n cap', .int .i64 hd]) (by simp [results, Try.results32, go_sem, f0, f1]) rfl ?_
  have ho : w1.ownsRow W.heap.size 75 3 (.slice (some ⟨g, 0, none⟩) n cap') n (cellsL l) := by simpa using hown
  obtain ⟨g', c', he, hRw, hbg, -, -⟩ := rw_own ho HN.out h1
  simp only [Value.slice.injEq, Option.some.injEq, Addr.mk.injEq] at he
  obtain ⟨⟨rfl, -⟩, -, -⟩ := he
  have hg2 : g = W.heap.size + 2 := by
    rcases hat with h | h
    · simp [Value.ownBlock] at h
    · exact h
  have b0 : Below W.heap.size W ((W.alloc (.cells #[.slice (some ⟨q, 0, none⟩) n cap, .int .i64 hd] 30)).alloc (.cells #[.slice none 0 0, .int .i64 0] 30)).drew := by go_grown
  have b1 := b0.grown hgrow (by simp; omega) (fun k hk => by simp [Value.ownBlock] at hk)
  refine ⟨g, cap', rfl, hRw.of ?_, hbg, (b1.setCell (p := ⟨W.heap.size + 1, 0, none⟩) (by simp) _).setCell (p := ⟨W.heap.size + 1, 1, none⟩) (by simp) _⟩
  exact (Below.heap_setCell _ _ _ g (by show g ≠ W.heap.size + 1; omega)).trans (Below.heap_setCell _ _ _ g (by show g ≠ W.heap.size + 1; omega))
end Go.Proofs.Yteppcjolgpdenaa.Seq
