/-
  Victims (layer 18): the loop of slices.DeleteFunc, its lists and its row.
-/
import Derived.Test.YtlokilkhlhhjgaaVicG
set_option linter.unusedVariables false
set_option linter.unusedSimpArgs false
namespace Go.Proofs.Ytlokilkhlhhjgaa.Vic
open Go Go.RowKit Kit
/-- what order keeps of the entries -/
def notk (k : Int) (l : List Wg) : List Wg := l.filter fun x => !(x.1 == k)
/-- the list under deletion: i kept ones, the rest from j on as it was -/
structure Df (k : Int) (l lc : List Wg) (i j : Nat) : Prop where
  len : lc.length = l.length
  ij : i ≤ j
  jn : j ≤ l.length
  low : lc.take i = notk k (l.take j)
  high : lc.drop j = l.drop j
theorem notk_take {k : Int} {l : List Wg} {j : Nat} {p : Wg} (hp : l[j]? = some p) : notk k (l.take (j + 1)) = notk k (l.take j) ++ (if (p.1 == k) = true then [] else [p]) := by
  obtain ⟨hj, he⟩ := List.getElem?_eq_some_iff.1 hp
  unfold notk
  rw [List.take_succ_eq_append_getElem hj, List.filter_append, he]
  cases h : (p.1 == k) <;> simp [h]
theorem Df.at_ {k : Int} {l lc : List Wg} {i j : Nat} (h : Df k l lc i j) : lc[j]? = l[j]? := by
  have := congrArg (fun (x : List Wg) => x[0]?) h.high
  simpa using this
theorem Df.drop_ {k : Int} {l lc : List Wg} {i j : Nat} {p : Wg} (h : Df k l lc i j) (hp : l[j]? = some p) (hk : (p.1 == k) = true) : Df k l lc i (j + 1) := by
  have hj := (List.getElem?_eq_some_iff.1 hp).1
  refine ⟨h.len, by have := h.ij; omega, by omega, ?_, ?_⟩
  · rw [notk_take hp, if_pos hk, List.append_nil]; exact h.low
  · have := congrArg (fun (x : List Wg) => x.drop 1) h.high
    simpa [List.drop_drop] using this
theorem Df.keep {k : Int} {l lc : List Wg} {i j : Nat} {p : Wg} (h : Df k l lc i j) (hp : l[j]? = some p) (hk : (p.1 == k) = false) : Df k l (lc.set i p) (i + 1) (j + 1) := by
  have hj := (List.getElem?_eq_some_iff.1 hp).1
  have hi : i < lc.length := by have := h.ij; have := h.len; omega
  refine ⟨by rw [List.length_set]; exact h.len, by have := h.ij; omega, by omega, ?_, ?_⟩
  · rw [notk_take hp, if_neg (by rw [hk]; decide), ← h.low, List.take_succ_eq_append_getElem (by rw [List.length_set]; exact hi), List.take_set_of_le (Nat.le_refl _), List.getElem_set_self]
  · rw [List.drop_set_of_lt (by have := h.ij; omega)]
    have := congrArg (fun (x : List Wg) => x.drop 1) h.high
    simpa [List.drop_drop] using this
theorem Df.done {k : Int} {l lc : List Wg} {i : Nat} (h : Df k l lc i l.length) : lc.take i = notk k l := by
  have := h.low
  rwa [List.take_length] at this
theorem Df.start {k : Int} {l : List Wg} {i : Nat} {p : Wg} (hi : l[i]? = some p) (hk : (p.1 == k) = true) (hb : ∀ m x, m < i → l[m]? = some x → (x.1 == k) = false) : Df k l l i (i + 1) := by
  have hlt := (List.getElem?_eq_some_iff.1 hi).1
  refine ⟨rfl, by omega, by omega, ?_, rfl⟩
  rw [notk_take hi, if_pos hk, List.append_nil]
  unfold notk
  refine (List.filter_eq_self.2 fun x hx => ?_).symm
  obtain ⟨m, hm, rfl⟩ := List.getElem_of_mem hx
  rw [List.length_take] at hm
  rw [List.getElem_take]
  rw [hb m _ (by omega) (List.getElem?_eq_getElem (by omega))]
  rfl
end Go.Proofs.Ytlokilkhlhhjgaa.Vic
