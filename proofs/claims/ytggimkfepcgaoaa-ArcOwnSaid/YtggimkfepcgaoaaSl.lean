/-
  Arguments that are slices of structs of plain cells.
-/
import Derived.Test.YtggimkfepcgaoaaArg
import Derived.DataReads
set_option linter.unusedVariables false
set_option linter.unusedSimpArgs false
namespace Go.Proofs.Ytggimkfepcgaoaa.Ev
open Go Go.RowKit
section
variable {H : Type} {enc : TypeId × Value → H} {P : Program} {w : World} {base : Nat} {sp : Nat → Bool} {held : Bool}
theorem mapM_at {α β : Type} {f : α → Option β} : ∀ {l : List α} {r : List β}, l.mapM f = some r → ∀ (j : Nat) (x : α), l[j]? = some x → ∃ y, f x = some y
  | [], r, h, j, x, hj => by simp at hj
  | a :: l, r, h, j, x, hj => by
    simp only [List.mapM_cons, Option.pure_def, Option.bind_eq_bind, Option.bind_eq_some_iff, Option.some.injEq] at h
    obtain ⟨y, hy, r', hr', -⟩ := h
    cases j with
    | zero => simp at hj; subst hj; exact ⟨y, hy⟩
    | succ j => exact mapM_at hr' j x (by simpa using hj)
/-- the element of an array that is read -/
theorem elem_of {fuel : Nat} {t e : TypeId} {n o : Nat} {cs : Array Value} {x : DataW H × List MemPlace} (ht : P.underlying t = some (.array n e)) (hc : P.cellsOf t = n) (he : P.cellsOf e = 1) (h : DataW.trod enc P w base sp held fuel t ((cs.toList.drop o).take (P.cellsOf t)) = some x) (i : Nat) (hi : i < n) :
    ∃ fuel x, DataW.trod enc P w base sp held fuel e ((cs.toList.drop (o + i)).take (P.cellsOf e)) = some x := by
  cases fuel with
  | zero => simp [DataW.trod] at h
  | succ fuel =>
    simp only [DataW.trod, ht, he, hc] at h
    split at h
    · simp only [Option.map_eq_some_iff] at h
      obtain ⟨xs, hxs, -⟩ := h
      obtain ⟨y, hy⟩ := mapM_at hxs i i (by simp [hi])
      refine ⟨fuel, y, ?_⟩
      rw [he]
      rw [Nat.mul_one, List.drop_take, List.drop_drop, List.take_take, Nat.min_eq_left (by omega)] at hy
      exact hy
    · cases h
theorem cells_at {a : Addr} {n : Nat} {cs : List Value} (h : w.cells? base a n = some cs) : cs.length = n ∧ ∀ j, j < n → ∃ v, cs[j]? = some v ∧ w.cell? (a.add j) = some v := by
  unfold World.cells? at h
  split at h
  · have key : ∀ {l : List Nat} {r : List Value}, l.mapM (fun i => w.cell? (a.add i)) = some r → r.length = l.length ∧ ∀ (j x : Nat), l[j]? = some x → ∃ v, r[j]? = some v ∧ w.cell? (a.add x) = some v := by
      intro l
      induction l with
      | nil => intro r hr; simp at hr; subst hr; exact ⟨rfl, fun j x hj => by simp at hj⟩
      | cons b l ih =>
        intro r hr
        simp only [List.mapM_cons, Option.pure_def, Option.bind_eq_bind, Option.bind_eq_some_iff, Option.some.injEq] at hr
        obtain ⟨y, hy, r', hr', rfl⟩ := hr
        obtain ⟨h1, h2⟩ := ih hr'
        refine ⟨by simp [h1], fun j x hj => ?_⟩
        cases j with
        | zero => simp at hj; subst hj; exact ⟨y, by simp, hy⟩
        | succ j => obtain ⟨v, e1, e2⟩ := h2 j x (by simpa using hj); exact ⟨v, by simpa using e1, e2⟩
    obtain ⟨h1, h2⟩ := key h
    refine ⟨by simpa using h1, fun j hj => ?_⟩
    exact h2 j j (by simp [hj])
  · cases h
/-- the elements of a slice that is read -/
theorem rows_of {t e : TypeId} {a : Option Addr} {l c : Nat} {d : DataW H} {ps : List MemPlace} (ht : P.underlying t = some (.slice e)) (h : DataW.Trod enc P w base sp held t (.slice a l c) d ps) :
    (a = none ∧ l = 0) ∨ ∃ x, a = some x ∧ l ≤ c ∧ c ≤ maxLen ∧ ∀ i, i < l → ∃ (cs : Array Value) (d' : DataW H) (ps' : List MemPlace), cs.size = P.cellsOf e ∧ (∀ j, j < P.cellsOf e → w.cell? (x.add (i * P.cellsOf e + j)) = cs[j]?) ∧ DataW.Trod enc P w base sp held e (.agg cs) d' ps' := by
  obtain ⟨fuel, h⟩ := h
  cases fuel with
  | zero => simp [DataW.trod] at h
  | succ fuel =>
    cases a with
    | none =>
      refine .inl ⟨rfl, ?_⟩
      simp only [Value.cells] at h
      cases l with
      | zero => rfl
      | succ l => simp [DataW.trod, ht] at h
    | some x =>
      refine .inr ⟨x, rfl, ?_⟩
      simp only [Value.cells, DataW.trod, ht] at h
      split at h
      · rename_i hb
        refine ⟨hb.2.1, hb.2.2, fun i hi => ?_⟩
        simp only [Option.bind_eq_some_iff] at h
        obtain ⟨elems, he, -⟩ := h
        obtain ⟨y, hy⟩ := mapM_at he i i (by simp [hi])
        simp only [Option.bind_eq_some_iff] at hy
        obtain ⟨cs, h1, h2⟩ := hy
        obtain ⟨k1, k2⟩ := cells_at h1
        refine ⟨⟨cs⟩, y.1, y.2, by simpa using k1, fun j hj => ?_, ⟨fuel, by simpa [Value.cells] using h2⟩⟩
        obtain ⟨v, e1, e2⟩ := k2 j hj
        have : (x.add (i * P.cellsOf e)).add j = x.add (i * P.cellsOf e + j) := by
          unfold Addr.add
          generalize i * P.cellsOf e = m
          by_cases h1 : m = 0
          · subst h1; simp
          · by_cases h2 : j = 0
            · subst h2; simp [h1]
            · simp [h1, h2, Nat.add_assoc]
        rw [this] at e2
        rw [e2]
        simpa using e1.symm
      · cases h
/-- a slice that stands in a struct: its elements may be read by rows_of -/
theorem cell_rows {fuel : Nat} {t e : TypeId} {cs : Array Value} {o : Nat} {x : DataW H × List MemPlace} (ht : P.underlying t = some (.slice e)) (hc : P.cellsOf t = 1) (h : DataW.trod enc P w base sp held fuel t ((cs.toList.drop o).take (P.cellsOf t)) = some x) :
    ∃ (a : Option Addr) (l c : Nat), cs[o]? = some (.slice a l c) ∧ ∃ (d : DataW H) (ps : List MemPlace), DataW.Trod enc P w base sp held t (.slice a l c) d ps := by
  rw [hc] at h
  rcases DataW.trod_slice ht h with ⟨h1, -⟩ | ⟨a, l, c, _, _, _, _, h1, -⟩
  · refine ⟨none, 0, 0, one_cell h1, x.1, x.2, fuel, ?_⟩
    rw [h1] at h
    simpa [Value.cells] using h
  · refine ⟨some a, l, c, one_cell h1, x.1, x.2, fuel, ?_⟩
    rw [h1] at h
    simpa [Value.cells] using h
end
end Go.Proofs.Ytggimkfepcgaoaa.Ev
