/-
  Rows: blocks whose first n cells are known; worlds that keep all but one block.
-/
import Derived.Test.YtdhdaknfmpfegaaKit
import Derived.Deep.RegionWith
set_option linter.unusedVariables false
set_option linter.unusedSimpArgs false
namespace Go.Proofs.Ytdhdaknfmpfegaa.Kit
open Go.RowKit
/-- block q starts with the cells f 0 .. f (n - 1) -/
def Row (W : World) (q n : Nat) (t : TypeId) (f : Nat → Value) : Prop := ∃ cs : Array Value, W.heap[q]? = some (.cells cs t (0, 0)) ∧ n ≤ cs.size ∧ ∀ i, i < n → cs[i]? = some (f i)
theorem Row.lt {W : World} {q n : Nat} {t : TypeId} {f : Nat → Value} (h : Row W q n t f) : q < W.heap.size := by
  obtain ⟨cs, h1, -⟩ := h; exact (Array.getElem?_eq_some_iff.1 h1).1
theorem Row.cell {W : World} {q n : Nat} {t : TypeId} {f : Nat → Value} (h : Row W q n t f) (i : Nat) (hi : i < n) : W.cell? ⟨q, i, none⟩ = some (f i) := by
  obtain ⟨cs, h1, h2, h3⟩ := h; simp [World.cell?, h1]; simpa using h3 i hi
theorem Row.fr {W : World} {q n : Nat} {t : TypeId} {f : Nat → Value} (h : Row W q n t f) (i : Nat) : W.frozen? ⟨q, i, none⟩ = false := by
  obtain ⟨cs, h1, h2, h3⟩ := h; simp [World.frozen?, h1]
theorem Row.of_block {W W' : World} {q n : Nat} {t : TypeId} {f : Nat → Value} (h : Row W q n t f) (hb : W'.heap[q]? = W.heap[q]?) : Row W' q n t f := by
  obtain ⟨cs, h1, h2⟩ := h; exact ⟨cs, hb.trans h1, h2⟩
theorem Row.below {W W' : World} {q n : Nat} {t : TypeId} {f : Nat → Value} (h : Row W q n t f) (hb : Below W.heap.size W W') : Row W' q n t f := h.of_block (hb.block q h.lt)
theorem Row.alloc {W : World} {q n : Nat} {t : TypeId} {f : Nat → Value} (h : Row W q n t f) (o : Obj) : Row (W.alloc o) q n t f := h.of_block (Below.heap_alloc W o q h.lt)
theorem Row.other {W : World} {q n : Nat} {t : TypeId} {f : Nat → Value} (h : Row W q n t f) {a : Addr} (hne : q ≠ a.block) (v : Value) : Row (W.setCell a v) q n t f := h.of_block (Below.heap_setCell W a v q hne)
theorem Row.congr {W : World} {q n : Nat} {t : TypeId} {f g : Nat → Value} (h : Row W q n t f) (he : ∀ i, i < n → f i = g i) : Row W q n t g := by
  obtain ⟨cs, h1, h2, h3⟩ := h; exact ⟨cs, h1, h2, fun i hi => by rw [h3 i hi, he i hi]⟩
theorem Row.set {W : World} {q n : Nat} {t : TypeId} {f : Nat → Value} (h : Row W q n t f) (i : Nat) (v : Value) : Row (W.setCell ⟨q, i, none⟩ v) q n t (fun j => if j = i then v else f j) := by
  obtain ⟨cs, h1, h2, h3⟩ := h
  obtain ⟨hlt, hk⟩ := Array.getElem?_eq_some_iff.1 h1
  refine ⟨cs.setIfInBounds i v, ?_, by simpa using h2, fun j hj => ?_⟩
  · show (W.heap.modify q _)[q]? = _
    rw [Array.getElem?_eq_getElem (by rw [Array.size_modify]; exact hlt), Array.getElem_modify_self, hk]
    rfl
  · rw [Array.getElem?_setIfInBounds]
    by_cases hji : i = j
    · subst hji; rw [if_pos rfl, if_pos (by omega)]; simp
    · rw [if_neg hji, h3 j hj]; simp [Ne.symm hji]
theorem Row.new (W : World) (cs : Array Value) (t : TypeId) (n : Nat) (f : Nat → Value) (h1 : n ≤ cs.size) (h2 : ∀ i, i < n → cs[i]? = some (f i)) : Row (W.alloc (.cells cs t)) W.heap.size n t f :=
  ⟨cs, (MapKept.heap_alloc W _).1, h1, h2⟩
theorem Row.made (W : World) (z : Value) (hz : z.cells = #[z]) (n : Nat) (t : TypeId) : Row (W.alloc (.cells (madeCells z.cells n) t)) W.heap.size n t (fun _ => z) := by
  refine Row.new W _ t n _ (by simp [madeCells]) fun i hi => ?_
  rw [hz]; simp [madeCells, hi, Nat.mod_one]
/-- an owned row is nil and empty, or a row -/
theorem own_row {w : World} {base n : Nat} {e : TypeId} {v : Value} {xs : List Value} (h : w.ownsRow base e 1 v n xs) (hx : xs.length = n) :
    (v = .slice none 0 0 ∧ n = 0) ∨ ∃ g cap, v = .slice (some ⟨g, 0, none⟩) n cap ∧ base ≤ g ∧ n ≤ cap ∧ cap ≤ maxLen ∧ Row w g n e (fun i => xs.getD i (.int .i64 0)) := by
  obtain ⟨_, ⟨hv, hn⟩ | ⟨g, cap, cur, hv, hb, hg, hc, hm, hs, ht⟩⟩ := h
  · exact .inl ⟨hv, hn⟩
  · refine .inr ⟨g, cap, hv, hb, hc, hm, cur, hg, by omega, fun i hi => ?_⟩
    have h2 : (cur.toList.take (n * 1))[i]? = xs[i]? := by rw [ht]
    rw [List.getElem?_take_of_lt (by omega)] at h2
    have h3 : cur[i]? = xs[i]? := by simpa using h2
    rw [h3]
    show xs[i]? = some (xs.getD i (.int .i64 0))
    rw [List.getD_eq_getElem?_getD, List.getElem?_eq_getElem (by omega)]; rfl

/-- all but block b is kept -/
structure But (b : Nat) (w w' : World) : Prop where
  os : w'.os = w.os
  tape : w'.tape = w.tape
  output : w'.output = w.output
  size : w.heap.size ≤ w'.heap.size
  block : ∀ k, k < w.heap.size → k ≠ b → w'.heap[k]? = w.heap[k]?
theorem But.refl (b : Nat) (w : World) : But b w w := ⟨rfl, rfl, rfl, Nat.le_refl _, fun _ _ _ => rfl⟩
theorem But.trans {b : Nat} {x y z : World} (h : But b x y) (k : But b y z) : But b x z :=
  ⟨k.os.trans h.os, k.tape.trans h.tape, k.output.trans h.output, Nat.le_trans h.size k.size, fun i hi hn => (k.block i (Nat.lt_of_lt_of_le hi h.size) hn).trans (h.block i hi hn)⟩
theorem But.of {b : Nat} {w w' : World} (h : Below w.heap.size w w') : But b w w' := ⟨h.os, h.tape, h.output, h.size, fun k hk _ => h.block k hk⟩
theorem But.tr {b : Nat} {x y z : World} (h : But b x y) (k : Below y.heap.size y z) : But b x z := h.trans (But.of k)
theorem But.setCell {b j : Nat} {w w' : World} (h : But b w w') (v : Value) : But b w (w'.setCell ⟨b, j, none⟩ v) := by
  have hb := (Below.refl b w').setCell (p := ⟨b, j, none⟩) (Nat.le_refl _) v
  exact ⟨hb.os.trans h.os, hb.tape.trans h.tape, hb.output.trans h.output, Nat.le_trans h.size hb.size, fun k hk hn => (Below.heap_setCell w' ⟨b, j, none⟩ v k hn).trans (h.block k hk hn)⟩
theorem But.below {b n : Nat} {w w' : World} (h : But b w w') (hb : n ≤ b) (hn : n ≤ w.heap.size) : Below n w w' :=
  ⟨h.os, h.tape, h.output, h.size, fun k hk => h.block k (by omega) (by omega)⟩
theorem But.drewN {b n : Nat} {w w' : World} (h : But b w w') : But b w (w'.drewN n) := h.trans (But.of (below_drewN (Below.refl _ _) _))
theorem Row.but {W W' : World} {b q n : Nat} {t : TypeId} {f : Nat → Value} (h : Row W q n t f) (hb : But b W W') (hne : q ≠ b) : Row W' q n t f := h.of_block (hb.block q h.lt hne)
end Go.Proofs.Ytdhdaknfmpfegaa.Kit
