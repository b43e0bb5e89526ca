/-
  Victims (layer 18): rows of weighed slots.
-/
import Derived.Test.YtlokilkhlhhjgaaProg
import Derived.Test.YtlokilkhlhhjgaaKit
import Derived.Laws.AppendOwn
import Derived.Laws.OwnMore
import Derived.BigRegion
import Derived.BigQuiet
import Derived.Carry
import Derived.Deep.QuietTactic
set_option linter.unusedVariables false
set_option linter.unusedSimpArgs false
namespace Go.Proofs.Ytlokilkhlhhjgaa.Vic
open Go Go.RowKit Kit
/-- a slot and its cost -/
abbrev Wg := Int × Int
def cellsW : List Wg → List Value
  | [] => []
  | p :: l => .int .u32 p.1 :: .int .i64 p.2 :: cellsW l
theorem cellsW_len (l : List Wg) : (cellsW l).length = l.length * 2 := by
  induction l with
  | nil => rfl
  | cons p l ih => simp only [cellsW, List.length_cons, ih]; omega
theorem cellsW_append (l r : List Wg) : cellsW (l ++ r) = cellsW l ++ cellsW r := by
  induction l with
  | nil => rfl
  | cons p l ih => simp only [List.cons_append, cellsW, ih]
theorem cellsW_at {l : List Wg} : ∀ {i : Nat} {p : Wg}, l[i]? = some p → (cellsW l)[i * 2]? = some (.int .u32 p.1) ∧ (cellsW l)[i * 2 + 1]? = some (.int .i64 p.2) := by
  induction l with
  | nil => intro i p h; simp at h
  | cons x l ih =>
    intro i p h
    cases i with
    | zero => simp at h; subst h; exact ⟨rfl, rfl⟩
    | succ i =>
      have := ih (i := i) (p := p) (by simpa using h)
      rw [show (i + 1) * 2 = i * 2 + 2 from by omega]
      exact this
theorem cellsW_of {l : List Wg} : ∀ {j : Nat} {u : Value}, (cellsW l)[j]? = some u → ∃ i p, l[i]? = some p ∧ ((j = i * 2 ∧ u = .int .u32 p.1) ∨ (j = i * 2 + 1 ∧ u = .int .i64 p.2)) := by
  induction l with
  | nil => intro j u h; simp [cellsW] at h
  | cons x l ih =>
    intro j u h
    match j, h with
    | 0, h => exact ⟨0, x, rfl, .inl ⟨rfl, by simpa [cellsW] using h.symm⟩⟩
    | 1, h => exact ⟨0, x, rfl, .inr ⟨rfl, by simpa [cellsW] using h.symm⟩⟩
    | j + 2, h =>
      obtain ⟨i, p, h1, h2⟩ := ih (j := j) (u := u) (by simpa [cellsW] using h)
      refine ⟨i + 1, p, by simpa using h1, ?_⟩
      rcases h2 with ⟨h2, h3⟩ | ⟨h2, h3⟩
      · exact .inl ⟨by omega, h3⟩
      · exact .inr ⟨by omega, h3⟩
theorem cellsW_one (l : List Wg) : ∀ u ∈ cellsW l, u.oneCell' = true := by
  induction l with
  | nil => intro u h; simp [cellsW] at h
  | cons x l ih =>
    intro u h
    simp only [cellsW, List.mem_cons] at h
    rcases h with rfl | rfl | h
    · rfl
    · rfl
    · exact ih u h
/-- a row that is read -/
def Rd (w : World) (a : Option Addr) (l : List Wg) : Prop := ∀ i p, l[i]? = some p → ∃ x, a = some x ∧ x.block < w.heap.size ∧ w.cell? (x.add (i * 2)) = some (.int .u32 p.1) ∧ w.cell? (x.add (i * 2 + 1)) = some (.int .i64 p.2)
theorem add_block (x : Addr) (m : Nat) : (x.add m).block = x.block := by unfold Addr.add; split <;> rfl
theorem Rd.below {w w' : World} {a : Option Addr} {l : List Wg} (h : Rd w a l) (hb : Below w.heap.size w w') : Rd w' a l := fun i p hp => by
  obtain ⟨x, h0, h1, h2, h3⟩ := h i p hp
  exact ⟨x, h0, Nat.lt_of_lt_of_le h1 hb.size, by rw [hb.cell (by rw [add_block]; exact h1)]; exact h2, by rw [hb.cell (by rw [add_block]; exact h1)]; exact h3⟩
theorem Rd.nil (w : World) (a : Option Addr) : Rd w a [] := fun i p hp => by simp at hp
theorem Rd.news {w : World} {x : Addr} {l : List Wg} (h : Rd w (some x) l) (j : Nat) (u : Value) (hj : (cellsW l)[j]? = some u) : w.cell? (x.add j) = some u := by
  obtain ⟨i, p, h1, h2⟩ := cellsW_of hj
  obtain ⟨y, hy, -, h3, h4⟩ := h i p h1
  cases hy
  rcases h2 with ⟨rfl, rfl⟩ | ⟨rfl, rfl⟩
  · exact h3
  · exact h4
theorem run_append_zero' {P : Program} (w : World) (t ty e : TypeId) (i : TypeInfo) (ht : P.underlying t = some (.slice e)) (hi : P.info? e = some i) (p : Option Addr) (n k : Nat) (hp : p = none → n = 0 ∧ k = 0) (hk : n ≤ k) (a : Option Addr) (c : Nat) :
    (Builtin.append_ #[t, t] ty #[.slice p n k, .slice a 0 c]).run P w = .ok (.slice p n k) w := by
  simp [Builtin.append_, run_underlying ht, Go.sizeOf, typeInfo, hi, Builtin.lenOf, Builtin.firstCells]
  cases a <;> cases p <;> simp_all [Builtin.firstCells, loadCells, loadCellsFrom, storeCells]
end Go.Proofs.Ytlokilkhlhhjgaa.Vic
