/-
  Package entrylog (layer 9): the state of a log; New.
-/
import Derived.Test.YtdhdaknfmpfegaaEnm
set_option linter.unusedVariables false
set_option linter.unusedSimpArgs false
namespace Go.Proofs.Ytdhdaknfmpfegaa.Elg
open Go Go.RowKit Kit Ent
/-- 'v = append(v, y)', y of four cells: v owns its row from block base on -/
theorem wpList_app4 {P : Program} {w : World} {ops : Array Oper} {rest : List Oper} {o : Oper} {a : Act} {Q : Exit → Act → World → Prop} (hgd : o.guard = none) (s x : Operand) (t : TypeId)
    (ho : o.op = .call { callee := .builtin .append, args := #[s, x], argTypes := #[t, t] })
    (base : Nat) (e : TypeId) (i : TypeInfo) (z : Value) (bytes : Nat) (ht : P.underlying t = some (.slice e)) (hi : P.info? e = some i) (hz : i.zero = some z)
    (hsize : i.size = 4) (hby : i.bytes = bytes) (hzs : z.cells.size = 4)
    (v : Value) (n : Nat) (xs : List Value) (y0 y1 y2 y3 : Value) (hs : a.eval s = v) (hown : w.ownsRow base e 4 v n xs)
    (hx : a.eval x = .slice (some ⟨w.heap.size, 0, none⟩) 1 1) (h0 : y0.oneCell' = true) (h1 : y1.oneCell' = true) (h2 : y2.oneCell' = true) (h3 : y3.oneCell' = true)
    (hn : n + 1 ≤ 1000000) (hbytes : bytes ≤ 100000) (hbase : base ≤ w.heap.size)
    (h : ∀ v' w', w'.ownsRow base e 4 v' (n + 1) (xs ++ [y0, y1, y2, y3]) → (w.alloc (.cells #[y0, y1, y2, y3] e)).grownBy w' v.ownBlock → wpList P ops Q rest (a.put o.dst v') w') :
    wpList P ops Q (o :: rest) a (w.alloc (.cells #[y0, y1, y2, y3] e)) := by
  refine wpList_append_own _ hgd s x t ho base e i z 4 bytes ht hi hz hsize hby hzs (by decide) v n xs hs (hown.alloc _) ⟨w.heap.size, 0, none⟩ 1 1 [y0, y1, y2, y3] hx rfl ?_ ?_ ?_ ?_ ?_ ?_
  · intro j u hj
    match j, hj with
    | 0, hj => simp at hj; subst hj; simp [Addr.add]
    | 1, hj => simp at hj; subst hj; simp [Addr.add]
    | 2, hj => simp at hj; subst hj; simp [Addr.add]
    | 3, hj => simp at hj; subst hj; simp [Addr.add]
  · intro u hu
    simp at hu
    rcases hu with rfl | rfl | rfl | rfl
    · exact h0
    · exact h1
    · exact h2
    · exact h3
  · unfold maxLen; omega
  · have : (n + 1) * bytes ≤ 1000000 * 100000 := Nat.mul_le_mul hn hbytes
    omega
  · simp; omega
  · intro v' w' ho' hg _
    exact h v' w' ho' hg
/-- an entry's cells in a row -/
def En4 (xs : List Value) (i : Nat) : Prop := ∃ (k : ByteArray) (p : Option Addr) (l c : Nat) (d b : Int), xs[i * 4]? = some (.string k) ∧ xs[i * 4 + 1]? = some (.slice p l c) ∧ xs[i * 4 + 2]? = some (.int .u64 d) ∧ xs[i * 4 + 3]? = some (.int .u64 b) ∧ b ≠ 0
/-- a log of n entries, none of them gone, beside the blocks X -/
structure Lw (w0 v : World) (o live n : Nat) (X : Nat → Prop) : Prop where
  ex : ∃ (p : Option Addr) (c : Nat) (xs : List Value), v.heap[o]? = some (.cells #[.bool true, .int .i64 (live : Int), .slice p n c] 67 (0, 0)) ∧ v.ownsRow w0.heap.size 36 4 (.slice p n c) n xs ∧ (∀ i, i < n → En4 xs i) ∧ (∀ y, p = some y → y.block ≠ o ∧ ¬ X y.block ∧ w0.heap.size ≤ y.block)
  bl : Below w0.heap.size w0 v
  ol : w0.heap.size ≤ o
  xo : ¬ X o
  xl : ∀ k, X k → k < v.heap.size
/-- what a step leaves -/
def LwR (w0 v v' : World) (o live n : Nat) (X : Nat → Prop) : Prop := Lw w0 v' o live n X ∧ (∀ k, X k → v'.heap[k]? = v.heap[k]?) ∧ v.heap.size ≤ v'.heap.size
section
variable {w0 v v' : World} {o live n : Nat} {X : Nat → Prop}
theorem Lw.olt (h : Lw w0 v o live n X) : o < v.heap.size := by
  obtain ⟨p, c, xs, h1, -⟩ := h.ex
  exact (Array.getElem?_eq_some_iff.1 h1).1
theorem row_lt {base n : Nat} {p : Option Addr} {c : Nat} {xs : List Value} (h : v.ownsRow base 36 4 (.slice p n c) n xs) : ∀ y, p = some y → base ≤ y.block ∧ y.block < v.heap.size := by
  obtain ⟨-, ⟨hv, -⟩ | ⟨g, cap, cur, hv, hb, hg, -⟩⟩ := h
  · cases hv; intro y hy; cases hy
  · cases hv
    intro y hy
    cases hy
    exact ⟨hb, (Array.getElem?_eq_some_iff.1 hg).1⟩
theorem row_of {base n : Nat} {p : Option Addr} {c : Nat} {xs : List Value} (h : v.ownsRow base 36 4 (.slice p n c) n xs) (hk : ∀ y, p = some y → v'.heap[y.block]? = v.heap[y.block]?) : v'.ownsRow base 36 4 (.slice p n c) n xs := by
  obtain ⟨h0, ⟨hv, hn⟩ | ⟨g, cap, cur, hv, hb, hg, h1⟩⟩ := h
  · exact ⟨h0, .inl ⟨hv, hn⟩⟩
  · cases hv
    exact ⟨h0, .inr ⟨g, _, cur, rfl, hb, (hk _ rfl).trans hg, h1⟩⟩
/-- a step that leaves the log's blocks alone -/
theorem Lw.keep (h : Lw w0 v o live n X) (hb : Below w0.heap.size w0 v') (hs : v.heap.size ≤ v'.heap.size) {X' : Nat → Prop} (ho : v'.heap[o]? = v.heap[o]?) (hr : ∀ k, k < v.heap.size → w0.heap.size ≤ k → ¬ X' k → v'.heap[k]? = v.heap[k]?) (hX : ∀ k, k < v.heap.size → X' k → X k) (hl : ∀ k, X' k → k < v'.heap.size) : Lw w0 v' o live n X' := by
  obtain ⟨p, c, xs, h1, h2, h3, h4⟩ := h.ex
  have hlt := row_lt h2
  refine ⟨⟨p, c, xs, ho.trans h1, row_of h2 fun y hy => hr _ (hlt y hy).2 (hlt y hy).1 fun hx => (h4 y hy).2.1 (hX _ (hlt y hy).2 hx), h3, fun y hy => ⟨(h4 y hy).1, fun hx => (h4 y hy).2.1 (hX _ (hlt y hy).2 hx), (h4 y hy).2.2⟩⟩, hb, h.ol, fun hx => h.xo (hX _ h.olt hx), hl⟩
theorem Lw.below (h : Lw w0 v o live n X) (hb : Below v.heap.size v v') : Lw w0 v' o live n (fun k => X k ∨ (v.heap.size ≤ k ∧ k < v'.heap.size)) := by
  have hs := hb.size
  have hs0 := h.bl.size
  refine h.keep (h.bl.trans (hb.mono hs0)) hs (hb.block o h.olt) (fun k hk _ _ => hb.block k hk) (fun k hk hx => ?_) fun k hx => ?_
  · rcases hx with hx | hx
    · exact hx
    · omega
  · rcases hx with hx | hx
    · have := h.xl k hx; omega
    · exact hx.2
theorem Lw.only (h : Lw w0 v o live n X) {X' : Nat → Prop} (hX : ∀ k, X' k → X k) : Lw w0 v o live n X' :=
  h.keep h.bl (Nat.le_refl _) rfl (fun _ _ _ _ => rfl) (fun k _ hx => hX k hx) fun k hx => h.xl k (hX k hx)
theorem Lw.below' (h : Lw w0 v o live n X) (hb : Below v.heap.size v v') : Lw w0 v' o live n X := (h.below hb).only fun k hk => .inl hk
theorem Lw.box (h : Lw w0 v o live n X) : ∃ (p : Option Addr) (c : Nat), v.cell? ⟨o, 0, none⟩ = some (.bool true) ∧ v.cell? ⟨o, 1, none⟩ = some (.int .i64 (live : Int)) ∧ v.cell? ⟨o, 2, none⟩ = some (.slice p n c) ∧ (∀ j, v.frozen? ⟨o, j, none⟩ = false) := by
  obtain ⟨p, c, xs, h1, -⟩ := h.ex
  refine ⟨p, c, ?_, ?_, ?_, fun j => ?_⟩ <;> simp [World.cell?, World.frozen?, h1]
theorem row_set {base n c g : Nat} {e : TypeId} {xs : List Value} (h : v.ownsRow base e 4 (.slice (some ⟨g, 0, none⟩) n c) n xs) (j : Nat) (y : Value) : (v.setCell ⟨g, j, none⟩ y).ownsRow base e 4 (.slice (some ⟨g, 0, none⟩) n c) n (xs.set j y) := by
  obtain ⟨h0, ⟨hv, hn⟩ | ⟨g', cap, cur, hv, hb, hg, hc, hm, hs, ht⟩⟩ := h
  · cases hv
  · cases hv
    obtain ⟨hlt, hk⟩ := Array.getElem?_eq_some_iff.1 hg
    refine ⟨by rw [List.length_set]; exact h0, .inr ⟨g, c, cur.setIfInBounds j y, rfl, hb, ?_, hc, hm, by simpa using hs, ?_⟩⟩
    · show (v.heap.modify g _)[g]? = _
      rw [Array.getElem?_eq_getElem (by rw [Array.size_modify]; exact hlt), Array.getElem_modify_self, hk]
      rfl
    · rw [← ht, Array.toList_setIfInBounds, List.take_set]
theorem En4.set1 {xs : List Value} {i i' : Nat} (h : En4 xs i') (hl : i * 4 + 1 < xs.length) (p : Option Addr) (l c : Nat) : En4 (xs.set (i * 4 + 1) (.slice p l c)) i' := by
  obtain ⟨k, p', l', c', d, b, e0, e1, e2, e3, e4⟩ := h
  by_cases hi : i' = i
  · subst hi
    exact ⟨k, p, l, c, d, b, by rw [List.getElem?_set_ne (by omega)]; exact e0, List.getElem?_set_self hl, by rw [List.getElem?_set_ne (by omega)]; exact e2, by rw [List.getElem?_set_ne (by omega)]; exact e3, e4⟩
  · exact ⟨k, p', l', c', d, b, by rw [List.getElem?_set_ne (by omega)]; exact e0, by rw [List.getElem?_set_ne (by omega)]; exact e1, by rw [List.getElem?_set_ne (by omega)]; exact e2, by rw [List.getElem?_set_ne (by omega)]; exact e3, e4⟩
theorem En4.set2 {xs : List Value} {i i' : Nat} (h : En4 xs i') (hl : i * 4 + 2 < xs.length) (z : Int) : En4 (xs.set (i * 4 + 2) (.int .u64 z)) i' := by
  obtain ⟨k, p', l', c', d, b, e0, e1, e2, e3, e4⟩ := h
  by_cases hi : i' = i
  · subst hi
    exact ⟨k, p', l', c', z, b, by rw [List.getElem?_set_ne (by omega)]; exact e0, by rw [List.getElem?_set_ne (by omega)]; exact e1, List.getElem?_set_self hl, by rw [List.getElem?_set_ne (by omega)]; exact e3, e4⟩
  · exact ⟨k, p', l', c', d, b, by rw [List.getElem?_set_ne (by omega)]; exact e0, by rw [List.getElem?_set_ne (by omega)]; exact e1, by rw [List.getElem?_set_ne (by omega)]; exact e2, by rw [List.getElem?_set_ne (by omega)]; exact e3, e4⟩
/-- an entry gets another value and deadline -/
theorem Lw.set (h : Lw w0 v o live n X) {i : Nat} (hi : i < n) {g c : Nat} (hg : v.cell? ⟨o, 2, none⟩ = some (.slice (some ⟨g, 0, none⟩) n c)) (p : Option Addr) (l c' : Nat) (z : Int) : LwR w0 v ((v.setCell ⟨g, i * 4 + 1, none⟩ (.slice p l c')).setCell ⟨g, i * 4 + 2, none⟩ (.int .u64 z)) o live n X := by
  obtain ⟨q, cq, xs, h1, h2, h3, h4⟩ := h.ex
  have hq : v.cell? ⟨o, 2, none⟩ = some (.slice q n cq) := by simp [World.cell?, h1]
  rw [hg] at hq
  cases hq
  have hgo := h4 _ rfl
  have hlen : xs.length = n * 4 := h2.1
  have hset : ∀ k, k ≠ g → ((v.setCell ⟨g, i * 4 + 1, none⟩ (.slice p l c')).setCell ⟨g, i * 4 + 2, none⟩ (.int .u64 z)).heap[k]? = v.heap[k]? := fun k hk => (Below.heap_setCell _ ⟨g, i * 4 + 2, none⟩ _ k hk).trans (Below.heap_setCell v ⟨g, i * 4 + 1, none⟩ _ k hk)
  refine ⟨⟨⟨_, c, _, (hset o (Ne.symm hgo.1)).trans h1, row_set (row_set h2 (i * 4 + 1) (.slice p l c')) (i * 4 + 2) (.int .u64 z), fun j hj => ((h3 j hj).set1 (by omega) p l c').set2 (by rw [List.length_set]; omega) z, h4⟩, (h.bl.setCell (p := ⟨g, i * 4 + 1, none⟩) hgo.2.2 _).setCell (p := ⟨g, i * 4 + 2, none⟩) hgo.2.2 _, h.ol, h.xo, fun k hk => ?_⟩, fun k hk => hset k fun e => hgo.2.1 (e ▸ hk), ?_⟩
  · rw [World.size_setCell, World.size_setCell]; exact h.xl k hk
  · rw [World.size_setCell, World.size_setCell]; exact Nat.le_refl _
/-- the cells of an entry -/
theorem Lw.at_ (h : Lw w0 v o live n X) {i : Nat} (hi : i < n) : ∃ (g c : Nat), v.cell? ⟨o, 2, none⟩ = some (.slice (some ⟨g, 0, none⟩) n c) ∧ n ≤ c ∧ ∃ (k : ByteArray) (p : Option Addr) (l c' : Nat) (d b : Int), v.cell? ⟨g, i * 4, none⟩ = some (.string k) ∧ v.cell? ⟨g, i * 4 + 1, none⟩ = some (.slice p l c') ∧ v.cell? ⟨g, i * 4 + 2, none⟩ = some (.int .u64 d) ∧ v.cell? ⟨g, i * 4 + 3, none⟩ = some (.int .u64 b) ∧ b ≠ 0 ∧ (∀ j, v.frozen? ⟨g, j, none⟩ = false) := by
  obtain ⟨p, c, xs, h1, h2, h3, h4⟩ := h.ex
  obtain ⟨h5, ⟨hv, hn⟩ | ⟨g, cap, cur, hv, hb, hg, hc, hm, hs, ht⟩⟩ := h2
  · omega
  · cases hv
    obtain ⟨k, p', l, c', d, b, e0, e1, e2, e3, e4⟩ := h3 i hi
    have key : ∀ j v0, xs[j]? = some v0 → v.cell? ⟨g, j, none⟩ = some v0 := fun j v0 hj => by
      have hjl : j < xs.length := (List.getElem?_eq_some_iff.1 hj).1
      rw [← ht, List.getElem?_take_of_lt (by omega)] at hj
      simp [World.cell?, hg]
      simpa using hj
    exact ⟨g, c, by simp [World.cell?, h1], hc, k, p', l, c', d, b, key _ _ e0, key _ _ e1, key _ _ e2, key _ _ e3, e4, fun j => by simp [World.frozen?, hg]⟩
end
end Go.Proofs.Ytdhdaknfmpfegaa.Elg
