/-
  Second chance (layer 31): the object, what stays of it; its small functions.
-/
import Derived.Test.YteppcjolgpdenaaSeqA
import Derived.Test.YteppcjolgpdenaaProg
import Derived.Test.YteppcjolgpdenaaKit
import Derived.Maps.OwnSet
import Derived.Deep.RegionWith
import Derived.BigRegion
import Derived.BigQuiet
import Derived.Carry
import Derived.Deep.QuietTactic
set_option linter.unusedVariables false
set_option linter.unusedSimpArgs false
namespace Go.Proofs.Yteppcjolgpdenaa.Seq
open Go Go.RowKit Kit Go.Maps
/-- all blocks but those from lo to hi are kept -/
structure Keep (lo hi : Nat) (w w' : World) : Prop where
  os : w'.os = w.os
  tape : w'.tape = w.tape
  output : w'.output = w.output
  size : w.heap.size ≤ w'.heap.size
  block : ∀ k, k < w.heap.size → (k < lo ∨ hi ≤ k) → w'.heap[k]? = w.heap[k]?
theorem Keep.refl (lo hi : Nat) (w : World) : Keep lo hi w w := ⟨rfl, rfl, rfl, Nat.le_refl _, fun _ _ _ => rfl⟩
theorem Keep.trans {lo hi : Nat} {x y z : World} (h : Keep lo hi x y) (k : Keep lo hi y z) : Keep lo hi x z :=
  ⟨k.os.trans h.os, k.tape.trans h.tape, k.output.trans h.output, Nat.le_trans h.size k.size, fun b hb hne => (k.block b (Nat.lt_of_lt_of_le hb h.size) hne).trans (h.block b hb hne)⟩
theorem Keep.of {lo hi : Nat} {w w' : World} (h : Below w.heap.size w w') : Keep lo hi w w' := ⟨h.os, h.tape, h.output, h.size, fun k hk _ => h.block k hk⟩
theorem Keep.tr {lo hi : Nat} {x y z : World} (h : Keep lo hi x y) (k : Below y.heap.size y z) : Keep lo hi x z := h.trans (Keep.of k)
theorem Keep.setCell {lo hi b j : Nat} {w w' : World} (h : Keep lo hi w w') (h1 : lo ≤ b) (h2 : b < hi) (v : Value) : Keep lo hi w (w'.setCell ⟨b, j, none⟩ v) := by
  refine ⟨h.os, h.tape, h.output, by simpa using h.size, fun k hk hne => ?_⟩
  rw [Below.heap_setCell _ _ _ k (by show k ≠ b; omega)]
  exact h.block k hk hne
theorem Keep.below {lo hi n : Nat} {w w' : World} (h : Keep lo hi w w') (hb : n ≤ lo) (hn : n ≤ w.heap.size) : Below n w w' :=
  ⟨h.os, h.tape, h.output, h.size, fun k hk => h.block k (by omega) (.inl (by omega))⟩
/-- a row of places in block q -/
def Rw (W : World) (q : Nat) (l : List Pl) : Prop := ∃ cs t, W.heap[q]? = some (.cells cs t (0, 0)) ∧ ∀ i p, l[i]? = some p → cs[i * 3]? = some (.int .u32 p.k) ∧ cs[i * 3 + 1]? = some (.bool p.f) ∧ cs[i * 3 + 2]? = some (.bool p.m)
theorem Rw.at_ {W : World} {q : Nat} {l : List Pl} (h : Rw W q l) {i : Nat} {p : Pl} (hp : l[i]? = some p) : W.cell? ⟨q, i * 3, none⟩ = some (.int .u32 p.k) ∧ W.cell? ⟨q, i * 3 + 1, none⟩ = some (.bool p.f) ∧ W.cell? ⟨q, i * 3 + 2, none⟩ = some (.bool p.m) ∧ ∀ j, W.frozen? ⟨q, j, none⟩ = false := by
  obtain ⟨cs, t, hh, hc⟩ := h
  obtain ⟨h1, h2, h3⟩ := hc i p hp
  refine ⟨?_, ?_, ?_, fun j => ?_⟩
  · simp only [World.cell?, hh]; exact h1
  · simp only [World.cell?, hh]; exact h2
  · simp only [World.cell?, hh]; exact h3
  · simp [World.frozen?, hh]
theorem Rw.lt {W : World} {q : Nat} {l : List Pl} (h : Rw W q l) : q < W.heap.size := by
  obtain ⟨cs, t, hh, -⟩ := h
  exact (Array.getElem?_eq_some_iff.1 hh).1
theorem Rw.of {W W' : World} {q : Nat} {l : List Pl} (h : Rw W q l) (hb : W'.heap[q]? = W.heap[q]?) : Rw W' q l := by
  obtain ⟨cs, t, hh, hc⟩ := h
  exact ⟨cs, t, hb.trans hh, hc⟩
theorem Rw.keep {W W' : World} {lo hi q : Nat} {l : List Pl} (h : Rw W q l) (hk : Keep lo hi W W') (hne : q < lo ∨ hi ≤ q) : Rw W' q l := h.of (hk.block q h.lt hne)
theorem heap_set {W : World} {q j : Nat} {cs : Array Value} {t : TypeId} (hh : W.heap[q]? = some (.cells cs t (0, 0))) (u : Value) : (W.setCell ⟨q, j, none⟩ u).heap[q]? = some (.cells (cs.setIfInBounds j u) t (0, 0)) := by
  obtain ⟨hlt, hk⟩ := Array.getElem?_eq_some_iff.1 hh
  show (W.heap.modify q _)[q]? = _
  rw [Array.getElem?_eq_getElem (by rw [Array.size_modify]; exact hlt), Array.getElem_modify_self, hk]
  simp
/-- the third cell of a place is written -/
theorem Rw.mark {W : World} {q : Nat} {l : List Pl} (h : Rw W q l) {i : Nat} {p : Pl} (hp : l[i]? = some p) (b : Bool) : Rw (W.setCell ⟨q, i * 3 + 2, none⟩ (.bool b)) q (l.set i ⟨p.k, p.f, b⟩) := by
  obtain ⟨cs, t, hh, hc⟩ := h
  refine ⟨_, t, heap_set hh _, fun j p' hj => ?_⟩
  have hi := (List.getElem?_eq_some_iff.1 hp).1
  obtain ⟨a1, a2, a3⟩ := hc i p hp
  have s3 := (Array.getElem?_eq_some_iff.1 a3).1
  rw [List.getElem?_set] at hj
  by_cases hij : i = j
  · subst hij
    rw [if_pos rfl, if_pos hi] at hj
    cases hj
    refine ⟨?_, ?_, ?_⟩
    · rw [Array.getElem?_setIfInBounds_ne (by omega)]; exact a1
    · rw [Array.getElem?_setIfInBounds_ne (by omega)]; exact a2
    · rw [Array.getElem?_setIfInBounds_self_of_lt s3]
  · rw [if_neg hij] at hj
    obtain ⟨b1, b2, b3⟩ := hc j p' hj
    refine ⟨?_, ?_, ?_⟩
    · rw [Array.getElem?_setIfInBounds_ne (by omega)]; exact b1
    · rw [Array.getElem?_setIfInBounds_ne (by omega)]; exact b2
    · rw [Array.getElem?_setIfInBounds_ne (by omega)]; exact b3
/-- all three cells of a place are written -/
theorem Rw.put {W : World} {q : Nat} {l : List Pl} (h : Rw W q l) {i : Nat} (hi : i < l.length) (p' : Pl) : Rw (((W.setCell ⟨q, i * 3, none⟩ (.int .u32 p'.k)).setCell ⟨q, i * 3 + 1, none⟩ (.bool p'.f)).setCell ⟨q, i * 3 + 2, none⟩ (.bool p'.m)) q (l.set i p') := by
  obtain ⟨cs, t, hh, hc⟩ := h
  refine ⟨_, t, heap_set (heap_set (heap_set hh _) _) _, fun j p hj => ?_⟩
  obtain ⟨a1, a2, a3⟩ := hc i l[i] (List.getElem?_eq_getElem hi)
  have s1 := (Array.getElem?_eq_some_iff.1 a1).1
  have s2 := (Array.getElem?_eq_some_iff.1 a2).1
  have s3 := (Array.getElem?_eq_some_iff.1 a3).1
  rw [List.getElem?_set] at hj
  by_cases hij : i = j
  · subst hij
    rw [if_pos rfl, if_pos hi] at hj
    cases hj
    refine ⟨?_, ?_, ?_⟩
    · rw [Array.getElem?_setIfInBounds_ne (by omega), Array.getElem?_setIfInBounds_ne (by omega), Array.getElem?_setIfInBounds_self_of_lt s1]
    · rw [Array.getElem?_setIfInBounds_ne (by omega), Array.getElem?_setIfInBounds_self_of_lt (by simpa using s2)]
    · rw [Array.getElem?_setIfInBounds_self_of_lt (by simpa using s3)]
  · rw [if_neg hij] at hj
    obtain ⟨b1, b2, b3⟩ := hc j p hj
    refine ⟨?_, ?_, ?_⟩
    · rw [Array.getElem?_setIfInBounds_ne (by omega), Array.getElem?_setIfInBounds_ne (by omega), Array.getElem?_setIfInBounds_ne (by omega)]; exact b1
    · rw [Array.getElem?_setIfInBounds_ne (by omega), Array.getElem?_setIfInBounds_ne (by omega), Array.getElem?_setIfInBounds_ne (by omega)]; exact b2
    · rw [Array.getElem?_setIfInBounds_ne (by omega), Array.getElem?_setIfInBounds_ne (by omega), Array.getElem?_setIfInBounds_ne (by omega)]; exact b3
/-- the object of a cache: block c; its row: block q; its map: block m; all of them from lo to hi -/
structure Sc (W : World) (c lo hi : Nat) (l : List Pl) (h : Nat) : Prop where
  ex : ∃ (q m cap N : Nat) (D : DataW Unit), W.heap[c]? = some (.cells #[.slice (some ⟨q, 0, none⟩) l.length cap, .int .i64 (h : Int), .map (some m)] 58 (0, 0)) ∧ Rw W q l ∧ W.ownsMap Try.prog 40 (plainElem Try.prog 3) m N D ∧ Mp D l ∧ N ≤ 100000 ∧ l.length ≤ cap ∧ cap ≤ maxLen ∧ c ≠ q ∧ c ≠ m ∧ q ≠ m ∧ lo ≤ c ∧ c < hi ∧ lo ≤ q ∧ q < hi ∧ lo ≤ m ∧ m < hi
  h1 : 1 ≤ l.length
  h2 : l.length ≤ 1024
  hh : h < l.length
  rng : ∀ p ∈ l, 0 ≤ p.k ∧ p.k < 4294967296
  top : hi ≤ W.heap.size
theorem own_keep {W W' : World} {P : Program} {k : TypeId} {R : Value → Option (DataW Unit × List MemPlace)} {m N : Nat} {D : DataW Unit} (h : W.ownsMap P k R m N D) (hb : W'.heap[m]? = W.heap[m]?) : W'.ownsMap P k R m N D := by
  obtain ⟨es, clock, h1, r⟩ := h
  exact ⟨es, clock, hb.trans h1, r⟩
theorem Sc.keep {W W' : World} {c lo hi lo' hi' : Nat} {l : List Pl} {h : Nat} (H : Sc W c lo hi l h) (hk : Keep lo' hi' W W') (hne : hi ≤ lo' ∨ hi' ≤ lo) : Sc W' c lo hi l h := by
  obtain ⟨⟨q, m, cap, N, D, h1, h2, h3, h4, h5, h6, h7, n1, n2, n3, b1, b2, b3, b4, b5, b6⟩, a1, a2, a3, a4, a5⟩ := H
  have e := fun k (hlo : lo ≤ k) (hhi : k < hi) => hk.block k (by omega) (by omega)
  exact ⟨⟨q, m, cap, N, D, (e c b1 b2).trans h1, h2.of (e q b3 b4), own_keep h3 (e m b5 b6), h4, h5, h6, h7, n1, n2, n3, b1, b2, b3, b4, b5, b6⟩, a1, a2, a3, a4, Nat.le_trans a5 hk.size⟩
theorem Sc.below {W W' : World} {c lo hi : Nat} {l : List Pl} {h : Nat} (H : Sc W c lo hi l h) (hb : Below W.heap.size W W') : Sc W' c lo hi l h := H.keep (Keep.of (lo := hi) (hi := hi) hb) (.inl (Nat.le_refl _))
set_option maxRecDepth 100000 in
theorem Sc.zero {W : World} {c lo hi : Nat} {l : List Pl} {h : Nat} (H : Sc W c lo hi l h) :
    Calls Try.prog 21 #[.pointer (some ⟨c, 0, none⟩)] W fun e w' => e = .returned (.bool false) ∧ W = w' := by
  obtain ⟨⟨q, m, cap, N, D, h1, -⟩, a1, a2, -⟩ := H
  have k0 : W.cell? ⟨c, 0, none⟩ = some (.slice (some ⟨q, 0, none⟩) l.length cap) := by simp [World.cell?, h1]
  generalize l.length = n at *
  clear h1
  go_enter Try.func21, Try.ntmps21
  go_wp2
  go_ret
  exact ⟨ret_bool (by simp; omega), rfl⟩
end Go.Proofs.Yteppcjolgpdenaa.Seq
