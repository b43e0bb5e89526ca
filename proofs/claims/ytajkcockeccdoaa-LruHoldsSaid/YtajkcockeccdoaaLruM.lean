/-
  Plain LRU lists (layer 15): the slots that were used last (pure).
-/
import Derived.WalkKit
set_option linter.unusedVariables false
set_option linter.unusedSimpArgs false
namespace Go.Proofs.Ytajkcockeccdoaa.Lru
open Go
/-- the different slots of a reversed row, ahead of those that are there -/
def allG : List Nat → List Nat → List Nat
  | [], out => out
  | x :: r, out => allG r (if x ∈ out then out else x :: out)
/-- as the law's last: at most so many -/
def lastG (most : Nat) : List Nat → List Nat → List Nat
  | [], out => out
  | x :: r, out => if out.length < most then lastG most r (if x ∈ out then out else x :: out) else out
/-- the last k ones -/
def rt (k : Nat) (l : List Nat) : List Nat := l.drop (l.length - k)
/-- what a use leaves -/
def usedL (l : List Nat) (s most : Nat) : List Nat := if (l.erase s ++ [s]).length > most then (l.erase s ++ [s]).tail else l.erase s ++ [s]
theorem allG_suffix : ∀ (r out : List Nat), ∃ P, allG r out = P ++ out
  | [], out => ⟨[], rfl⟩
  | x :: r, out => by
    obtain ⟨P, h⟩ := allG_suffix r (if x ∈ out then out else x :: out)
    unfold allG
    rw [h]
    split
    · exact ⟨P, rfl⟩
    · exact ⟨P ++ [x], by simp⟩
theorem rt_suffix (P out : List Nat) : rt out.length (P ++ out) = out := by unfold rt; simp
theorem rt_self {k : Nat} {l : List Nat} (h : l.length ≤ k) : rt k l = l := by unfold rt; rw [Nat.sub_eq_zero_of_le h]; rfl
theorem rt_len (k : Nat) (l : List Nat) : (rt k l).length = min k l.length := by unfold rt; rw [List.length_drop]; omega
theorem lastG_rt (most : Nat) : ∀ (r out : List Nat), out.length ≤ most → lastG most r out = rt most (allG r out)
  | [], out, h => (rt_self h).symm
  | x :: r, out, h => by
    unfold lastG
    split
    · rename_i hlt
      unfold allG
      refine lastG_rt most r _ ?_
      split
      · omega
      · simp; omega
    · obtain rfl : out.length = most := by omega
      obtain ⟨P, hP⟩ := allG_suffix (x :: r) out
      rw [hP, rt_suffix]
theorem allG_use (s : Nat) : ∀ (r out : List Nat), allG r (out.erase s ++ [s]) = (allG r out).erase s ++ [s]
  | [], out => rfl
  | x :: r, out => by
    unfold allG
    by_cases hx : x = s
    · subst hx
      rw [if_pos (by simp)]
      by_cases hm : x ∈ out
      · rw [if_pos hm]; exact allG_use x r out
      · rw [if_neg hm, ← allG_use x r (x :: out), List.erase_cons_head, List.erase_of_not_mem hm]
    · have hiff : x ∈ out.erase s ++ [s] ↔ x ∈ out := by
        rw [List.mem_append, List.mem_erase_of_ne hx]
        simp [hx]
      by_cases hm : x ∈ out
      · rw [if_pos (hiff.2 hm), if_pos hm]; exact allG_use s r out
      · rw [if_neg fun h => hm (hiff.1 h), if_neg hm, ← allG_use s r (x :: out), List.erase_cons_tail (by simpa using hx)]
        rfl
theorem allG_nodup : ∀ (r out : List Nat), out.Nodup → (allG r out).Nodup
  | [], out, h => h
  | x :: r, out, h => by
    unfold allG
    refine allG_nodup r _ ?_
    split
    · exact h
    · rename_i hx; exact List.nodup_cons.2 ⟨hx, h⟩
/-- the order of all slots by their last use -/
def ord (xs : List Nat) : List Nat := allG xs.reverse []
theorem ord_snoc (xs : List Nat) (s : Nat) : ord (xs ++ [s]) = (ord xs).erase s ++ [s] := by
  unfold ord
  rw [List.reverse_append]
  show allG xs.reverse [s] = _
  exact allG_use s xs.reverse []
theorem ord_nodup (xs : List Nat) : (ord xs).Nodup := allG_nodup _ _ List.nodup_nil
theorem rt_app {k : Nat} {P L : List Nat} (h : k ≤ L.length) : rt k (P ++ L) = rt k L := by
  unfold rt
  rw [List.length_append, List.drop_append, List.drop_of_length_le (by omega), List.nil_append]
  congr 1
  omega
theorem rt_full {k : Nat} {P L : List Nat} (h : L.length = k) : rt k (P ++ L) = L := by
  rw [rt_app (Nat.le_of_eq h.symm), rt_self (Nat.le_of_eq h)]
theorem rt_tail {k : Nat} {L : List Nat} (h : L.length = k + 1) : rt k L = L.tail := by
  unfold rt
  rw [h, show k + 1 - k = 1 by omega, List.drop_one]
theorem rt_split (k : Nat) (D : List Nat) : ∃ P, D = P ++ rt k D ∧ ((rt k D).length = k ∨ P = []) ∧ (rt k D).length ≤ k := by
  refine ⟨D.take (D.length - k), (List.take_append_drop _ _).symm, ?_, by rw [rt_len]; omega⟩
  by_cases h : k ≤ D.length
  · left; rw [rt_len]; omega
  · right; rw [Nat.sub_eq_zero_of_le (by omega)]; rfl
theorem used_rt {D : List Nat} (hn : D.Nodup) (s most : Nat) : usedL (rt most D) s most = rt most (D.erase s ++ [s]) := by
  obtain ⟨P, hD, hP, hl⟩ := rt_split most D
  generalize rt most D = L at *
  subst hD
  unfold usedL
  by_cases hs : s ∈ L
  · have hsP : s ∉ P := fun h => (List.nodup_append.1 hn).2.2 s h s hs rfl
    have hlen : (L.erase s ++ [s]).length = L.length := by
      rw [List.length_append, List.length_erase_of_mem hs]
      have := List.length_pos_of_mem hs
      simp
      omega
    rw [if_neg (by omega), List.erase_append_right _ hsP, List.append_assoc]
    rcases hP with h | rfl
    · exact (rt_full (hlen.trans h)).symm
    · rw [List.nil_append, rt_self (by omega)]
  · rw [List.erase_of_not_mem hs]
    have hlen : (L ++ [s]).length = L.length + 1 := by simp
    rcases hP with h | rfl
    · rw [if_pos (by omega)]
      by_cases hsP : s ∈ P
      · rw [List.erase_append_left _ hsP, List.append_assoc, rt_app (by omega), rt_tail (by omega)]
      · rw [List.erase_append_right _ hsP, List.erase_of_not_mem hs, List.append_assoc, rt_app (by omega), rt_tail (by omega)]
    · rw [List.nil_append, List.erase_of_not_mem hs]
      split
      · rw [rt_tail (by omega)]
      · rw [rt_self (by omega)]
theorem rt_mem {small great : Nat} (h : small ≤ great) {D : List Nat} {x : Nat} (hx : x ∈ rt small D) : x ∈ rt great D := by
  obtain ⟨P, hD, hP, hl⟩ := rt_split great D
  generalize hR : rt great D = L at *
  rcases hP with hk | rfl
  · rw [hD, rt_app (by omega)] at hx
    exact List.mem_of_mem_drop hx
  · rw [hD, List.nil_append] at hx
    exact List.mem_of_mem_drop hx
/-- the law's last, of one more slot -/
theorem last_snoc (xs : List Nat) (s most : Nat) : usedL (lastG most xs.reverse []) s most = lastG most (xs ++ [s]).reverse [] := by
  rw [lastG_rt most _ [] (Nat.zero_le _), lastG_rt most _ [] (Nat.zero_le _)]
  show usedL (rt most (ord xs)) s most = rt most (ord (xs ++ [s]))
  rw [used_rt (ord_nodup xs), ord_snoc]
theorem last_mem {small great : Nat} (h : small ≤ great) {xs : List Nat} {x : Nat} (hx : x ∈ lastG small xs.reverse []) : x ∈ lastG great xs.reverse [] := by
  rw [lastG_rt small _ [] (Nat.zero_le _)] at hx
  rw [lastG_rt great _ [] (Nat.zero_le _)]
  exact rt_mem h hx
end Go.Proofs.Ytajkcockeccdoaa.Lru
