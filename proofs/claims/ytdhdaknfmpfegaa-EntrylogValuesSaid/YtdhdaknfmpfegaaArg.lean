/-
  Arguments that are structs of plain cells.
-/
import Derived.Test.YtdhdaknfmpfegaaEvX
import Derived.ChangeArms
import Derived.WideShapes
set_option linter.unusedVariables false
set_option linter.unusedSimpArgs false
namespace Go.Proofs.Ytdhdaknfmpfegaa.Ev
open Go Go.RowKit
section
variable {H : Type} {enc : TypeId × Value → H} {P : Program} {w : World} {base : Nat} {sp : Nat → Bool} {held : Bool}
/-- the field of a struct that is read -/
theorem field_of {t : TypeId} {fs : Array Field} {cs : Array Value} {d : DataW H} {ps : List MemPlace} (ht : P.underlying t = some (.struct fs)) (h : DataW.Trod enc P w base sp held t (.agg cs) d ps) (i : Nat) {f : Field} (hf : fs[i]? = some f) :
    ∃ fuel x, DataW.trod enc P w base sp held fuel f.type ((cs.toList.drop f.offset).take (P.cellsOf f.type)) = some x := by
  obtain ⟨fuel, h⟩ := h
  cases fuel with
  | zero => simp [DataW.trod] at h
  | succ fuel =>
    simp only [DataW.trod, ht, Value.cells] at h
    split at h
    · simp only [Option.map_eq_some_iff] at h
      obtain ⟨xs, hxs, -⟩ := h
      have key : ∀ {l : List Field} {r : List (DataW H × List MemPlace)}, l.mapM (fun f => DataW.trod enc P w base sp held fuel f.type ((cs.toList.drop f.offset).take (P.cellsOf f.type))) = some r → ∀ (j : Nat) (g : Field), l[j]? = some g → ∃ x, DataW.trod enc P w base sp held fuel g.type ((cs.toList.drop g.offset).take (P.cellsOf g.type)) = some x := by
        intro l
        induction l with
        | nil => intro r _ j g hg; simp at hg
        | cons a l ih =>
          intro r hr j g hg
          simp only [List.mapM_cons, Option.pure_def, Option.bind_eq_bind, Option.bind_eq_some_iff, Option.some.injEq] at hr
          obtain ⟨y, hy, r', hr', -⟩ := hr
          cases j with
          | zero => simp at hg; subst hg; exact ⟨y, hy⟩
          | succ j => exact ih hr' j g (by simpa using hg)
      obtain ⟨x, hx⟩ := key hxs i f (by simpa using hf)
      exact ⟨fuel, x, hx⟩
    · cases h
theorem one_cell {cs : Array Value} {o : Nat} {v : Value} (h : (cs.toList.drop o).take 1 = [v]) : cs[o]? = some v := by
  have h2 : ((cs.toList.drop o).take 1)[0]? = some v := by rw [h]; rfl
  simpa using h2
theorem cell_int {fuel : Nat} {t : TypeId} {k : IntKind} {cs : Array Value} {o : Nat} {x : DataW H × List MemPlace} (ht : P.underlying t = some (.int k)) (hc : P.cellsOf t = 1) (h : DataW.trod enc P w base sp held fuel t ((cs.toList.drop o).take (P.cellsOf t)) = some x) :
    ∃ n, cs[o]? = some (.int k n) ∧ (Lit.int k n).wf = true := by
  rw [hc] at h
  obtain ⟨n, h1, -, h3⟩ := DataW.trod_int ht h
  exact ⟨n, one_cell h1, h3⟩
theorem cell_string {fuel : Nat} {t : TypeId} {cs : Array Value} {o : Nat} {x : DataW H × List MemPlace} (ht : P.underlying t = some .string) (hc : P.cellsOf t = 1) (h : DataW.trod enc P w base sp held fuel t ((cs.toList.drop o).take (P.cellsOf t)) = some x) :
    ∃ s : ByteArray, cs[o]? = some (.string s) ∧ s.size ≤ maxLen := by
  rw [hc] at h
  obtain ⟨n, h1, -, h3⟩ := DataW.trod_string ht h
  exact ⟨n, one_cell h1, h3⟩
theorem cell_slice {fuel : Nat} {t e : TypeId} {cs : Array Value} {o : Nat} {x : DataW H × List MemPlace} (ht : P.underlying t = some (.slice e)) (hc : P.cellsOf t = 1) (h : DataW.trod enc P w base sp held fuel t ((cs.toList.drop o).take (P.cellsOf t)) = some x) :
    ∃ (a : Option Addr) (l c : Nat), cs[o]? = some (.slice a l c) := by
  rw [hc] at h
  rcases DataW.trod_slice ht h with ⟨h1, -⟩ | ⟨a, l, c, _, _, _, _, h1, -⟩
  · exact ⟨none, 0, 0, one_cell h1⟩
  · exact ⟨some a, l, c, one_cell h1⟩
theorem cell_bool {fuel : Nat} {t : TypeId} {cs : Array Value} {o : Nat} {x : DataW H × List MemPlace} (ht : P.underlying t = some .bool) (hc : P.cellsOf t = 1) (h : DataW.trod enc P w base sp held fuel t ((cs.toList.drop o).take (P.cellsOf t)) = some x) :
    ∃ b : Bool, cs[o]? = some (.bool b) := by
  rw [hc] at h
  cases fuel with
  | zero => simp [DataW.trod] at h
  | succ fuel =>
    generalize hl : (cs.toList.drop o).take 1 = l at h
    simp only [DataW.trod, ht] at h
    match l, h with
    | [.bool b], h => exact ⟨b, one_cell hl⟩
    | [], h => simp at h
    | x :: y :: l, h => cases x <;> simp at h
    | [.int _ _], h | [.float _ _], h | [.complex _ _ _], h | [.string _], h | [.pointer _], h | [.slice _ _ _], h | [.map _], h | [.chan _], h | [.func _ _ _], h | [.nilFunc], h | [.iface _ _], h | [.nilIface], h | [.agg _], h | [.tuple _], h => simp at h
end
theorem cells_eq {cs : Array Value} (l : List Value) (h : cs.size = l.length) (k : ∀ (j : Nat) (v : Value), l[j]? = some v → cs[j]? = some v) : cs = l.toArray := by
  apply Array.ext (by simpa using h)
  intro j h1 h2
  have h3 : j < l.length := by omega
  have := k j _ (List.getElem?_eq_getElem h3)
  rw [Array.getElem?_eq_getElem h1] at this
  simpa using this
end Go.Proofs.Ytdhdaknfmpfegaa.Ev
