/-
  Adaptive replacement (layer 29), pure: what a request makes of the lists.
-/
import Derived.Test.YtggimkfepcgaoaaArcD
set_option linter.unusedVariables false
set_option linter.unusedSimpArgs false
section
namespace Go.Proofs.Ytggimkfepcgaoaa.Arc
open Go Go.RowKit Kit Go.Maps Lnk Gho
/-- no key twice, in one list or in two -/
structure Nd (L : Nat → List Nat) : Prop where
  one : ∀ i, i < 4 → (L i).Nodup
  two : ∀ i j y, i < 4 → j < 4 → y ∈ L i → y ∈ L j → i = j
theorem upd_same {L : Nat → List Nat} {i : Nat} {l : List Nat} : upd L i l i = l := if_pos rfl
theorem upd_other {L : Nat → List Nat} {i j : Nat} {l : List Nat} (h : j ≠ i) : upd L i l j = L j := if_neg h
/-- what a step makes: whose membership, how many -/
structure St (L L' : Nat → List Nat) (M : Nat → Nat → Prop) (N : Nat → Int) : Prop where
  nd : Nd L'
  mem : ∀ j y, j < 4 → (y ∈ L' j ↔ M j y)
  len : ∀ j, j < 4 → ((L' j).length : Int) = N j
theorem st_last {L : Nat → List Nat} (h : Nd L) {i : Nat} (hi : i < 4) {l : List Nat} {x : Nat} (hl : L i = l ++ [x]) : St L (upd L i l) (fun j y => y ∈ L j ∧ y ≠ x) (fun j => (L j).length - if j = i then 1 else 0) := by
  have hn := h.one i hi
  rw [hl] at hn
  have hxl : x ∉ l := fun hx => (List.nodup_append.1 hn).2.2 x hx x (by simp) rfl
  have hx : x ∈ L i := by rw [hl]; simp
  have hm : ∀ j y, j < 4 → (y ∈ upd L i l j ↔ y ∈ L j ∧ y ≠ x) := fun j y hj => by
    by_cases hji : j = i
    · subst hji
      rw [upd_same, hl, List.mem_append, List.mem_singleton]
      constructor
      · exact fun hy => ⟨.inl hy, fun e => hxl (e ▸ hy)⟩
      · rintro ⟨hy | hy, hne⟩
        · exact hy
        · exact absurd hy hne
    · rw [upd_other hji]
      exact ⟨fun hy => ⟨hy, fun e => hji (h.two j i y hj hi hy (e ▸ hx))⟩, fun hy => hy.1⟩
  refine ⟨⟨fun j hj => ?_, fun a c y ha hc h1 h2 => h.two a c y ha hc ((hm a y ha).1 h1).1 ((hm c y hc).1 h2).1⟩, hm, fun j hj => ?_⟩
  · by_cases hji : j = i
    · subst hji; rw [upd_same]; exact (List.nodup_append.1 hn).1
    · rw [upd_other hji]; exact h.one j hj
  · by_cases hji : j = i
    · subst hji; rw [upd_same, if_pos rfl, hl, List.length_append, List.length_singleton]; omega
    · rw [upd_other hji, if_neg hji]; omega
theorem st_add {L : Nat → List Nat} (h : Nd L) {i : Nat} (hi : i < 4) {x : Nat} (hx : ∀ j, j < 4 → x ∉ L j) (hl : (L i).length < 4096) : St L (upd L i (addG 4096 (L i) x).1) (fun j y => y ∈ L j ∨ j = i ∧ y = x) (fun j => (L j).length + if j = i then 1 else 0) := by
  have e : (addG 4096 (L i) x).1 = x :: L i := by
    unfold addG
    rw [if_neg (hx i hi), if_pos (by omega)]
  rw [e]
  have hm : ∀ j y, j < 4 → (y ∈ upd L i (x :: L i) j ↔ y ∈ L j ∨ j = i ∧ y = x) := fun j y hj => by
    by_cases hji : j = i
    · subst hji
      rw [upd_same, List.mem_cons]
      constructor
      · rintro (hy | hy)
        · exact .inr ⟨rfl, hy⟩
        · exact .inl hy
      · rintro (hy | hy)
        · exact .inr hy
        · exact .inl hy.2
    · rw [upd_other hji]
      exact ⟨fun hy => .inl hy, fun hy => hy.elim id fun e => absurd e.1 hji⟩
  refine ⟨⟨fun j hj => ?_, fun a c y ha hc h1 h2 => ?_⟩, hm, fun j hj => ?_⟩
  · by_cases hji : j = i
    · subst hji; rw [upd_same]; exact List.nodup_cons.2 ⟨hx j hj, h.one j hj⟩
    · rw [upd_other hji]; exact h.one j hj
  · rcases (hm a y ha).1 h1 with h1 | ⟨h1, h1'⟩ <;> rcases (hm c y hc).1 h2 with h2 | ⟨h2, h2'⟩
    · exact h.two a c y ha hc h1 h2
    · exact absurd (h2' ▸ h1) (hx a ha)
    · exact absurd (h1' ▸ h2) (hx c hc)
    · rw [h1, h2]
  · by_cases hji : j = i
    · subst hji; rw [upd_same, if_pos rfl, List.length_cons]; omega
    · rw [upd_other hji, if_neg hji]; omega
theorem st_ers {L : Nat → List Nat} (h : Nd L) {i : Nat} (hi : i < 4) {x : Nat} (hx : x ∈ L i) : St L (upd L i ((L i).erase x)) (fun j y => y ∈ L j ∧ y ≠ x) (fun j => (L j).length - if j = i then 1 else 0) := by
  have hn := h.one i hi
  have hm : ∀ j y, j < 4 → (y ∈ upd L i ((L i).erase x) j ↔ y ∈ L j ∧ y ≠ x) := fun j y hj => by
    by_cases hji : j = i
    · subst hji
      rw [upd_same, hn.mem_erase_iff]
      exact ⟨fun ⟨h1, h2⟩ => ⟨h2, h1⟩, fun ⟨h1, h2⟩ => ⟨h2, h1⟩⟩
    · rw [upd_other hji]
      exact ⟨fun hy => ⟨hy, fun e => hji (h.two j i y hj hi hy (e ▸ hx))⟩, fun hy => hy.1⟩
  refine ⟨⟨fun j hj => ?_, fun a c y ha hc h1 h2 => h.two a c y ha hc ((hm a y ha).1 h1).1 ((hm c y hc).1 h2).1⟩, hm, fun j hj => ?_⟩
  · by_cases hji : j = i
    · subst hji; rw [upd_same]; exact hn.erase x
    · rw [upd_other hji]; exact h.one j hj
  · by_cases hji : j = i
    · subst hji; rw [upd_same, if_pos rfl, List.length_erase_of_mem hx]; have := List.length_pos_of_mem hx; omega
    · rw [upd_other hji, if_neg hji]; omega
/-- what makeRoom makes -/
def roomA (s : Nat) (t : Int) (found : Bool) (L : Nat → List Nat) : (Nat → List Nat) × Bool × Nat :=
  if (L 0).length + (L 1).length < s then (L, false, 0)
  else (upd (upd L (fromA L t found) (L (fromA L t found)).dropLast) (fromA L t found + 2) (addG 4096 (L (fromA L t found + 2)) ((L (fromA L t found)).getLastD 0)).1, true, (L (fromA L t found)).getLastD 0)
/-- what a request for a key that is nowhere makes, but for the key -/
def missA (s : Nat) (t : Int) (L : Nat → List Nat) : (Nat → List Nat) × Bool × Nat :=
  if (L 0).length = s then (upd L 0 (L 0).dropLast, true, (L 0).getLastD 0)
  else if (L 0).length + (L 2).length = s then roomA s t false (upd L 2 (L 2).dropLast)
  else if (L 0).length + (L 1).length + (L 2).length + (L 3).length = 2 * s then roomA s t false (upd L 3 (L 3).dropLast)
  else if (L 0).length + (L 1).length + (L 2).length + (L 3).length < s then (L, false, 0)
  else roomA s t false L
/-- a key is moved to the front of often -/
def moveA (L : Nat → List Nat) (i k : Nat) : Nat → List Nat := upd (upd L i ((L i).erase k)) 1 (addG 4096 (upd L i ((L i).erase k) 1) k).1
/-- what a request makes: the target, the lists, whether it is a hit, whether a key has left, and which -/
def useA (s : Nat) (t : Int) (L : Nat → List Nat) (k : Nat) : Int × (Nat → List Nat) × Bool × Bool × Nat :=
  if k ∈ L 0 then (t, moveA L 0 k, true, false, 0)
  else if k ∈ L 1 then (t, moveA L 1 k, true, false, 0)
  else if k ∈ L 2 then (tgt2 s t L, moveA (roomA s (tgt2 s t L) false L).1 2 k, false, (roomA s (tgt2 s t L) false L).2)
  else if k ∈ L 3 then (tgt3 t L, moveA (roomA s (tgt3 t L) true L).1 3 k, false, (roomA s (tgt3 t L) true L).2)
  else (t, upd (missA s t L).1 0 (addG 4096 ((missA s t L).1 0) k).1, false, (missA s t L).2)
/-- the lists of a cache -/
structure Ai (s : Nat) (t : Int) (L : Nat → List Nat) : Prop where
  nd : Nd L
  a : (L 0).length + (L 1).length ≤ s
  b : (L 0).length + (L 2).length ≤ s
  c : (L 0).length + (L 1).length + (L 2).length + (L 3).length ≤ 2 * s
  t0 : 0 ≤ t
  t1 : t ≤ s
  s1 : 1 ≤ s
  s2 : s ≤ 1024
theorem last_of {l : List Nat} (h : 0 < l.length) : l = l.dropLast ++ [l.getLastD 0] := by
  cases l with
  | nil => cases h
  | cons a m =>
    have := (List.dropLast_concat_getLast (l := a :: m) (by simp)).symm
    rw [List.getLastD_eq_getLast?, List.getLast?_eq_some_getLast (by simp)]
    exact this
theorem fromA_lt (L : Nat → List Nat) (t : Int) (found : Bool) : fromA L t found < 2 := by unfold fromA; split <;> omega
theorem fromA_ne {L : Nat → List Nat} {t : Int} {found : Bool} {s : Nat} (hf : s ≤ (L 0).length + (L 1).length) (s1 : 1 ≤ s) (t1 : t ≤ s) (h : (L 0).length < s ∨ found = true) : 0 < (L (fromA L t found)).length := by
  unfold fromA
  split
  · next hc => exact hc.1
  · next hc =>
    rcases Nat.eq_zero_or_pos (L 0).length with h0 | h0
    · omega
    · rcases Nat.eq_zero_or_pos (L 1).length with h1 | h1
      · exfalso
        apply hc
        refine ⟨h0, ?_⟩
        rcases h with h | h
        · omega
        · by_cases ht : t < ((L 0).length : Int)
          · exact .inl ht
          · exact .inr ⟨by omega, h⟩
      · exact h1
/-- what makeRoom makes, where nothing is to be done, or a list is not empty -/
theorem room_st {s : Nat} {t : Int} {found : Bool} {L : Nat → List Nat} (nd : Nd L) (s1 : 1 ≤ s) (s2 : s ≤ 1024) (t1 : t ≤ s) (hl : ∀ j, j < 4 → (L j).length ≤ 2048) (h : (L 0).length < s ∨ found = true) :
    ((L 0).length + (L 1).length < s ∧ roomA s t found L = (L, false, 0)) ∨
    (s ≤ (L 0).length + (L 1).length ∧ ∃ F x L', F < 2 ∧ x ∈ L F ∧ roomA s t found L = (L', true, x) ∧ fromA L t found = F ∧ L F = (L F).dropLast ++ [x] ∧
      St L L' (fun j y => (y ∈ L j ∧ y ≠ x) ∨ j = F + 2 ∧ y = x) (fun j => (L j).length - (if j = F then 1 else 0) + if j = F + 2 then 1 else 0)) := by
  by_cases hf : (L 0).length + (L 1).length < s
  · exact .inl ⟨hf, by unfold roomA; rw [if_pos hf]⟩
  · refine .inr ⟨by omega, fromA L t found, (L (fromA L t found)).getLastD 0, _, fromA_lt .., ?_, by unfold roomA; rw [if_neg hf], rfl, ?_, ?_⟩
    · have := last_of (fromA_ne (by omega) s1 t1 h)
      rw [this]
      simp
    · exact last_of (fromA_ne (by omega) s1 t1 h)
    · have hF2 := fromA_lt L t found
      have hp := last_of (fromA_ne (found := found) (by omega) s1 t1 h)
      generalize fromA L t found = F at *
      have h1 := st_last nd (by omega) hp
      have e2 : upd L F (L F).dropLast (F + 2) = L (F + 2) := upd_other (by omega)
      have h2 := st_add h1.nd (i := F + 2) (by omega) (x := (L F).getLastD 0) (fun j hj hx => ((h1.mem j _ hj).1 hx).2 rfl) (by rw [e2]; have := hl (F + 2) (by omega); omega)
      rw [e2] at h2
      refine ⟨h2.nd, fun j y hj => (h2.mem j y hj).trans ?_, fun j hj => by rw [h2.len j hj, h1.len j hj]⟩
      rw [h1.mem j y hj]
end Go.Proofs.Ytggimkfepcgaoaa.Arc
end
section
namespace Go.Proofs.Ytggimkfepcgaoaa.Arc
open Go Go.RowKit Kit Go.Maps Lnk Gho
theorem move_st {L : Nat → List Nat} (nd : Nd L) {i k : Nat} (hi : i < 4) (hk : k ∈ L i) (hl : (L 1).length ≤ 2048) : St L (moveA L i k) (fun j y => (y ∈ L j ∧ y ≠ k) ∨ j = 1 ∧ y = k) (fun j => (L j).length - (if j = i then 1 else 0) + if j = 1 then 1 else 0) := by
  have h1 := st_ers nd hi hk
  have h2 := st_add h1.nd (i := 1) (by omega) (x := k) (fun j hj hx => ((h1.mem j _ hj).1 hx).2 rfl) (by have := h1.len 1 (by omega); split at this <;> omega)
  exact ⟨h2.nd, fun j y hj => (h2.mem j y hj).trans (by rw [h1.mem j y hj]), fun j hj => (h2.len j hj).trans (by rw [h1.len j hj])⟩
/-- what the law asks of a request -/
structure Us (s : Nat) (L : Nat → List Nat) (k : Nat) (t' : Int) (L' : Nat → List Nat) (hit left : Bool) (out : Nat) : Prop where
  ai : Ai s t' L'
  hit_ : hit = decide (k ∈ L 0 ∨ k ∈ L 1)
  left_ : left = true → hit = false ∧ (out ∈ L 0 ∨ out ∈ L 1) ∧ s ≤ (L 0).length + (L 1).length
  out_ : left = false → out = 0
  mem : ∀ y, (y ∈ L' 0 ∨ y ∈ L' 1) ↔ ((y ∈ L 0 ∨ y ∈ L 1) ∧ ¬ (left = true ∧ y = out)) ∨ y = k
  sub : ∀ j y, j < 4 → y ∈ L' j → y = k ∨ ∃ i, i < 4 ∧ y ∈ L i
theorem lens_of {L' : Nat → List Nat} {N : Nat → Int} (h : ∀ j, j < 4 → ((L' j).length : Int) = N j) : ((L' 0).length : Int) = N 0 ∧ ((L' 1).length : Int) = N 1 ∧ ((L' 2).length : Int) = N 2 ∧ ((L' 3).length : Int) = N 3 := ⟨h 0 (by omega), h 1 (by omega), h 2 (by omega), h 3 (by omega)⟩
theorem tgt2_le {s : Nat} {t : Int} {L : Nat → List Nat} (h0 : 0 ≤ t) : 0 ≤ tgt2 s t L ∧ tgt2 s t L ≤ s := by unfold tgt2; omega
theorem tgt3_le {s : Nat} {t : Int} {L : Nat → List Nat} (h1 : t ≤ s) : 0 ≤ tgt3 t L ∧ tgt3 t L ≤ s := by unfold tgt3; omega
/-- a hit -/
theorem us_hit {s : Nat} {t : Int} {L : Nat → List Nat} (h : Ai s t L) {i k : Nat} (hi : i < 2) (hk : k ∈ L i) : Us s L k t (moveA L i k) true false 0 := by
  obtain ⟨nd, a, b, c, t0, t1, s1, s2⟩ := h
  have st := move_st nd (by omega) hk (by omega)
  have hp := List.length_pos_of_mem hk
  obtain ⟨l0, l1, l2, l3⟩ := lens_of st.len
  have m0 := fun y => st.mem 0 y (by omega)
  have m1 := fun y => st.mem 1 y (by omega)
  have hi01 : i = 0 ∨ i = 1 := by omega
  refine ⟨⟨st.nd, ?_, ?_, ?_, t0, t1, s1, s2⟩, ?_, fun h => (by cases h), fun _ => rfl, fun y => ?_, fun j y hj hy => ?_⟩
  · rcases hi01 with rfl | rfl <;> simp at l0 l1 l2 l3 <;> omega
  · rcases hi01 with rfl | rfl <;> simp at l0 l1 l2 l3 <;> omega
  · rcases hi01 with rfl | rfl <;> simp at l0 l1 l2 l3 <;> omega
  · rcases hi01 with rfl | rfl <;> simp [hk]
  · rw [m0, m1]
    rcases hi01 with rfl | rfl <;> (by_cases hyk : y = k <;> simp [hyk])
  · rcases (st.mem j y hj).1 hy with h | h
    · exact .inr ⟨j, hj, h.1⟩
    · exact .inl h.2
theorem not_in {L : Nat → List Nat} (nd : Nd L) {i j y : Nat} (hi : i < 4) (hj : j < 4) (hy : y ∈ L i) (hne : i ≠ j) : y ∉ L j := fun h => hne (nd.two i j y hi hj hy h)
/-- found in a ghost list -/
theorem us_ghost {s : Nat} {t : Int} {L : Nat → List Nat} (h : Ai s t L) {i k : Nat} (hi : i = 2 ∨ i = 3) (hk : k ∈ L i) {t' : Int} (h0 : 0 ≤ t') (h1 : t' ≤ s) {found : Bool} (hf : i = 3 → found = true) :
    Us s L k t' (moveA (roomA s t' found L).1 i k) false (roomA s t' found L).2.1 (roomA s t' found L).2.2 := by
  obtain ⟨nd, a, b, c, t0, t1, s1, s2⟩ := h
  have hi4 : i < 4 := by omega
  have hp := List.length_pos_of_mem hk
  have hk0 : k ∉ L 0 := not_in nd hi4 (by omega) hk (by omega)
  have hk1 : k ∉ L 1 := not_in nd hi4 (by omega) hk (by omega)
  rcases room_st (t := t') (found := found) nd s1 s2 h1 (fun j hj => by match j, hj with | 0, _ => omega | 1, _ => omega | 2, _ => omega | 3, _ => omega) (by rcases hi with rfl | rfl; exact .inl (by omega); exact .inr (hf rfl)) with ⟨hr, e⟩ | ⟨hr, F, x, L1, hF, hx, e, -, -, st⟩
  · rw [e]
    show Us s L k t' (moveA L i k) false false 0
    have st := move_st nd hi4 hk (by omega)
    obtain ⟨l0, l1, l2, l3⟩ := lens_of st.len
    have m0 := fun y => st.mem 0 y (by omega)
    have m1 := fun y => st.mem 1 y (by omega)
    refine ⟨⟨st.nd, ?_, ?_, ?_, h0, h1, s1, s2⟩, by simp [hk0, hk1], fun h => (by cases h), fun _ => rfl, fun y => ?_, fun j y hj hy => ?_⟩
    · rcases hi with rfl | rfl <;> simp at l0 l1 l2 l3 <;> omega
    · rcases hi with rfl | rfl <;> simp at l0 l1 l2 l3 <;> omega
    · rcases hi with rfl | rfl <;> simp at l0 l1 l2 l3 <;> omega
    · show (y ∈ moveA L i k 0 ∨ y ∈ moveA L i k 1) ↔ _
      rw [m0, m1]
      by_cases hyk : y = k
      · simp [hyk]
      · simp [hyk]
    · rcases (st.mem j y hj).1 hy with h | h
      · exact .inr ⟨j, hj, h.1⟩
      · exact .inl h.2
  · rw [e]
    show Us s L k t' (moveA L1 i k) false true x
    have hxk : x ≠ k := fun e => by subst e; exact not_in nd hi4 (by omega) hk (by omega) hx
    have hk2 : k ∈ L1 i := (st.mem i k hi4).2 (.inl ⟨hk, fun e => hxk e.symm⟩)
    have l1' := st.len 1 (by omega)
    have st2 := move_st st.nd hi4 hk2 (by split at l1' <;> split at l1' <;> omega)
    obtain ⟨l0, l1, l2, l3⟩ := lens_of st2.len
    obtain ⟨q0, q1, q2, q3⟩ := lens_of st.len
    have m0 := fun y => (st2.mem 0 y (by omega)).trans (or_congr (and_congr (st.mem 0 y (by omega)) Iff.rfl) Iff.rfl)
    have m1 := fun y => (st2.mem 1 y (by omega)).trans (or_congr (and_congr (st.mem 1 y (by omega)) Iff.rfl) Iff.rfl)
    have hF01 : F = 0 ∨ F = 1 := by omega
    have hxp := List.length_pos_of_mem hx
    refine ⟨⟨st2.nd, ?_, ?_, ?_, h0, h1, s1, s2⟩, by simp [hk0, hk1], fun _ => ⟨rfl, by rcases hF01 with rfl | rfl; exact .inl hx; exact .inr hx, hr⟩, fun h => (by cases h), fun y => ?_, fun j y hj hy => ?_⟩
    · rcases hi with rfl | rfl <;> rcases hF01 with rfl | rfl <;> simp at l0 l1 l2 l3 q0 q1 q2 q3 <;> omega
    · rcases hi with rfl | rfl <;> rcases hF01 with rfl | rfl <;> simp at l0 l1 l2 l3 q0 q1 q2 q3 <;> omega
    · rcases hi with rfl | rfl <;> rcases hF01 with rfl | rfl <;> simp at l0 l1 l2 l3 q0 q1 q2 q3 <;> omega
    · show (y ∈ moveA L1 i k 0 ∨ y ∈ moveA L1 i k 1) ↔ _
      rw [m0, m1]
      have f0 : ¬ 0 = F + 2 := by omega
      have f1 : ¬ 1 = F + 2 := by omega
      by_cases hyk : y = k
      · simp [hyk]
      · by_cases hyx : y = x
        · subst hyx; simp [hyk, f0, f1]
        · simp [hyk, hyx, f0, f1]
    · rcases (st2.mem j y hj).1 hy with h | h
      · rcases (st.mem j y hj).1 h.1 with h | h
        · exact .inr ⟨j, hj, h.1⟩
        · exact .inr ⟨F, by omega, h.2 ▸ hx⟩
      · exact .inl h.2
/-- a key that is nowhere is added to once -/
theorem us_add {s : Nat} {t : Int} {L L1 : Nat → List Nat} {k : Nat} {M : Nat → Nat → Prop} {N : Nat → Int} {left : Bool} {out : Nat} (h : Ai s t L) (hk : ∀ j, j < 4 → k ∉ L j) (st : St L L1 M N)
    (hM : ∀ j y, j < 4 → M j y → ∃ i, i < 4 ∧ y ∈ L i) (hM2 : ∀ y, (M 0 y ∨ M 1 y) ↔ ((y ∈ L 0 ∨ y ∈ L 1) ∧ ¬ (left = true ∧ y = out)))
    (h1 : N 0 + 1 + N 1 ≤ s) (h2 : N 0 + 1 + N 2 ≤ s) (h3 : N 0 + 1 + N 1 + N 2 + N 3 ≤ 2 * s)
    (hleft : left = true → (out ∈ L 0 ∨ out ∈ L 1) ∧ s ≤ (L 0).length + (L 1).length) (hout : left = false → out = 0) :
    Us s L k t (upd L1 0 (addG 4096 (L1 0) k).1) false left out := by
  obtain ⟨nd, a, b, c, t0, t1, s1, s2⟩ := h
  have hk1 : ∀ j, j < 4 → k ∉ L1 j := fun j hj hx => by
    obtain ⟨i, hi, hy⟩ := hM j k hj ((st.mem j k hj).1 hx)
    exact hk i hi hy
  have n0 := st.len 0 (by omega)
  have n1 := st.len 1 (by omega)
  have n2 := st.len 2 (by omega)
  have n3 := st.len 3 (by omega)
  have st2 := st_add st.nd (i := 0) (by omega) hk1 (by omega)
  obtain ⟨l0, l1, l2, l3⟩ := lens_of st2.len
  simp at l0 l1 l2 l3
  have m0 := fun y => (st2.mem 0 y (by omega)).trans (or_congr (st.mem 0 y (by omega)) Iff.rfl)
  have m1 := fun y => (st2.mem 1 y (by omega)).trans (or_congr (st.mem 1 y (by omega)) Iff.rfl)
  refine ⟨⟨st2.nd, by omega, by omega, by omega, t0, t1, s1, s2⟩, by simp [hk 0 (by omega), hk 1 (by omega)], fun h => ⟨rfl, hleft h⟩, hout, fun y => ?_, fun j y hj hy => ?_⟩
  · rw [m0, m1, ← hM2 y]
    constructor
    · rintro ((h | h) | (h | h))
      · exact .inl (.inl h)
      · exact .inr h.2
      · exact .inl (.inr h)
      · exact .inr h.2
    · rintro ((h | h) | h)
      · exact .inl (.inl h)
      · exact .inr (.inl h)
      · exact .inl (.inr ⟨rfl, h⟩)
  · rcases (st2.mem j y hj).1 hy with h | h
    · exact .inr (hM j y hj ((st.mem j y hj).1 h))
    · exact .inl h.2
/-- room is made behind a step that took a ghost away, or none -/
theorem us_room {s : Nat} {t : Int} {L L1 : Nat → List Nat} {k : Nat} {M : Nat → Nat → Prop} {N : Nat → Int} (h : Ai s t L) (hk : ∀ j, j < 4 → k ∉ L j) (st : St L L1 M N)
    (hM : ∀ j y, j < 4 → M j y → y ∈ L j) (hM0 : ∀ y, y ∈ L 0 → M 0 y) (hM1 : ∀ y, y ∈ L 1 → M 1 y) (e0 : N 0 = (L 0).length) (e1 : N 1 = (L 1).length) (hs : (L 0).length < s)
    (h2 : N 0 + 1 + N 2 ≤ s) (h3 : N 0 + 1 + N 1 + N 2 + N 3 ≤ 2 * s) :
    Us s L k t (upd (roomA s t false L1).1 0 (addG 4096 ((roomA s t false L1).1 0) k).1) false (roomA s t false L1).2.1 (roomA s t false L1).2.2 := by
  obtain ⟨n0, n1, n2, n3⟩ := lens_of st.len
  have hai := h
  obtain ⟨nd, a, b, c, t0, t1, s1, s2⟩ := h
  rcases room_st (t := t) (found := false) st.nd s1 s2 t1 (fun j hj => by match j, hj with | 0, _ => omega | 1, _ => omega | 2, _ => omega | 3, _ => omega) (.inl (by omega)) with ⟨hr, e⟩ | ⟨hr, F, x, L2, hF, hx, e, -, -, st2⟩
  · rw [e]
    show Us s L k t (upd L1 0 (addG 4096 (L1 0) k).1) false false 0
    refine us_add hai hk st (fun j y hj h => ⟨j, hj, hM j y hj h⟩) (fun y => ?_) (by omega) h2 h3 (fun h => (by cases h)) fun _ => rfl
    simp only [Bool.false_eq_true, false_and, not_false_eq_true, and_true]
    exact ⟨fun h => h.imp (hM 0 y (by omega)) (hM 1 y (by omega)), fun h => h.imp (hM0 y) (hM1 y)⟩
  · rw [e]
    show Us s L k t (upd L2 0 (addG 4096 (L2 0) k).1) false true x
    have hF01 : F = 0 ∨ F = 1 := by omega
    have hxL : x ∈ L F := hM F x (by omega) ((st.mem F x (by omega)).1 hx)
    have hxp := List.length_pos_of_mem hx
    have st3 : St L L2 (fun j y => (M j y ∧ y ≠ x) ∨ j = F + 2 ∧ y = x) (fun j => N j - (if j = F then 1 else 0) + if j = F + 2 then 1 else 0) :=
      ⟨st2.nd, fun j y hj => (st2.mem j y hj).trans (or_congr (and_congr (st.mem j y hj) Iff.rfl) Iff.rfl), fun j hj => by rw [st2.len j hj, st.len j hj]⟩
    refine us_add hai hk st3 (fun j y hj h => ?_) (fun y => ?_) ?_ ?_ ?_ (fun _ => ⟨by rcases hF01 with rfl | rfl; exact .inl hxL; exact .inr hxL, by omega⟩) fun h => (by cases h)
    · rcases h with h | h
      · exact ⟨j, hj, hM j y hj h.1⟩
      · exact ⟨F, by omega, h.2 ▸ hxL⟩
    · have f0 : ¬ 0 = F + 2 := by omega
      have f1 : ¬ 1 = F + 2 := by omega
      simp only [f0, f1, false_and, or_false, true_and]
      constructor
      · rintro (h | h)
        · exact ⟨.inl (hM 0 y (by omega) h.1), h.2⟩
        · exact ⟨.inr (hM 1 y (by omega) h.1), h.2⟩
      · rintro ⟨h | h, hne⟩
        · exact .inl ⟨hM0 y h, hne⟩
        · exact .inr ⟨hM1 y h, hne⟩
    · rcases hF01 with rfl | rfl <;> simp <;> omega
    · rcases hF01 with rfl | rfl <;> simp <;> omega
    · rcases hF01 with rfl | rfl <;> simp <;> omega
/-- what a request makes -/
theorem use_spec {s : Nat} {t : Int} {L : Nat → List Nat} (h : Ai s t L) (k : Nat) : Us s L k (useA s t L k).1 (useA s t L k).2.1 (useA s t L k).2.2.1 (useA s t L k).2.2.2.1 (useA s t L k).2.2.2.2 := by
  unfold useA
  by_cases k0 : k ∈ L 0
  · rw [if_pos k0]; exact us_hit h (by omega) k0
  rw [if_neg k0]
  by_cases k1 : k ∈ L 1
  · rw [if_pos k1]; exact us_hit h (by omega) k1
  rw [if_neg k1]
  by_cases k2 : k ∈ L 2
  · rw [if_pos k2]; exact us_ghost h (.inl rfl) k2 (tgt2_le h.t0).1 (tgt2_le h.t0).2 (fun h => by omega)
  rw [if_neg k2]
  by_cases k3 : k ∈ L 3
  · rw [if_pos k3]; exact us_ghost h (.inr rfl) k3 (tgt3_le h.t1).1 (tgt3_le h.t1).2 (fun _ => rfl)
  rw [if_neg k3]
  have hk : ∀ j, j < 4 → k ∉ L j := fun j hj => by match j, hj with | 0, _ => exact k0 | 1, _ => exact k1 | 2, _ => exact k2 | 3, _ => exact k3
  have hai := h
  obtain ⟨nd, a, b, c, t0, t1, s1, s2⟩ := h
  have self : St L L (fun j y => y ∈ L j) (fun j => (L j).length) := ⟨nd, fun _ _ _ => Iff.rfl, fun _ _ => rfl⟩
  unfold missA
  by_cases c0 : (L 0).length = s
  · rw [if_pos c0]
    have hp := last_of (show 0 < (L 0).length by omega)
    have hx : (L 0).getLastD 0 ∈ L 0 := by have := List.mem_append_right (L 0).dropLast (List.mem_singleton_self ((L 0).getLastD 0)); rwa [← hp] at this
    have st := st_last nd (by omega) hp
    refine us_add hai hk st (fun j y hj h => ⟨j, hj, h.1⟩) (fun y => ?_) (by simp; omega) (by simp; omega) (by simp; omega) (fun _ => ⟨.inl hx, by omega⟩) fun h => (by cases h)
    simp only [true_and]
    constructor
    · rintro (h | h)
      · exact ⟨.inl h.1, h.2⟩
      · exact ⟨.inr h.1, h.2⟩
    · rintro ⟨h | h, hne⟩
      · exact .inl ⟨h, hne⟩
      · exact .inr ⟨h, hne⟩
  rw [if_neg c0]
  by_cases c1 : (L 0).length + (L 2).length = s
  · rw [if_pos c1]
    have hp := last_of (show 0 < (L 2).length by omega)
    have hx : (L 2).getLastD 0 ∈ L 2 := by have := List.mem_append_right (L 2).dropLast (List.mem_singleton_self ((L 2).getLastD 0)); rwa [← hp] at this
    have st := st_last nd (by omega) hp
    exact us_room hai hk st (fun j y hj h => h.1) (fun y hy => ⟨hy, fun e => not_in nd (by omega) (by omega) hx (by omega) (e ▸ hy)⟩) (fun y hy => ⟨hy, fun e => not_in nd (by omega) (by omega) hx (by omega) (e ▸ hy)⟩) (by simp) (by simp) (by omega) (by simp; omega) (by simp; omega)
  rw [if_neg c1]
  by_cases c2 : (L 0).length + (L 1).length + (L 2).length + (L 3).length = 2 * s
  · rw [if_pos c2]
    have hp := last_of (show 0 < (L 3).length by omega)
    have hx : (L 3).getLastD 0 ∈ L 3 := by have := List.mem_append_right (L 3).dropLast (List.mem_singleton_self ((L 3).getLastD 0)); rwa [← hp] at this
    have st := st_last nd (by omega) hp
    exact us_room hai hk st (fun j y hj h => h.1) (fun y hy => ⟨hy, fun e => not_in nd (by omega) (by omega) hx (by omega) (e ▸ hy)⟩) (fun y hy => ⟨hy, fun e => not_in nd (by omega) (by omega) hx (by omega) (e ▸ hy)⟩) (by simp) (by simp) (by omega) (by simp; omega) (by simp; omega)
  rw [if_neg c2]
  by_cases c3 : (L 0).length + (L 1).length + (L 2).length + (L 3).length < s
  · rw [if_pos c3]
    refine us_add hai hk self (fun j y hj h => ⟨j, hj, h⟩) (fun y => ?_) (by omega) (by omega) (by omega) (fun h => (by cases h)) fun _ => rfl
    simp
  · rw [if_neg c3]
    exact us_room hai hk self (fun j y hj h => h) (fun y hy => hy) (fun y hy => hy) rfl rfl (by omega) (by omega) (by omega)
end Go.Proofs.Ytggimkfepcgaoaa.Arc
end
section
namespace Go.Proofs.Ytggimkfepcgaoaa.Arc
open Go Go.RowKit Kit Go.Maps Lnk Gho
section
variable {w0 v : World} {o K s : Nat} {t : Int} {b : Nat → Nat} {L : Nat → List Nat} {X : Nat → Prop}
theorem AxR.mono {v' : World} {K' : Nat} (h : AxR w0 v v' o K s t b L X) (hK : K ≤ K') : AxR w0 v v' o K' s t b L X := ⟨h.1.mono hK, h.2⟩
theorem room_any (h : Ax w0 v o K s t b L X) (hs : 1 ≤ s) (hL : ∀ i, i < 4 → (L i).length ≤ 4096) (hK : K ≤ 1000000) (found : Bool) (hne : s ≤ (L 0).length + (L 1).length → 0 < (L (fromA L t found)).length) :
    Calls Try.prog 152 #[ap o, .bool found] v fun e w' => RoomQ w0 v o K s t b X (roomA s t found L).2.1 (roomA s t found L).2.2 (roomA s t found L).1 e w' := by
  unfold roomA
  by_cases hf : (L 0).length + (L 1).length < s
  · rw [if_pos hf]
    refine (room_free h hs hL found hf).mono ?_
    rintro e w' ⟨rfl, hr⟩
    exact ⟨rfl, hr.mono (by omega)⟩
  · rw [if_neg hf]
    have hl := last_of (hne (by omega))
    have hx : (L (fromA L t found)).getLastD 0 ∈ L (fromA L t found) := by have := List.mem_append_right (L (fromA L t found)).dropLast (List.mem_singleton_self ((L (fromA L t found)).getLastD 0)); rwa [← hl] at this
    refine (room_full h hs hL hK found (by omega) rfl hl (h.klt _ (by have := fromA_lt L t found; omega) _ hx)).mono ?_
    rintro e w' ⟨rfl, hr⟩
    exact ⟨rfl, hr⟩
theorem lit_cell (u : World) (cs : Array Value) (ty : TypeId) (j : Nat) {x : Value} (h : cs[j]? = some x) : (u.alloc (.cells cs ty)).drew.cell? ⟨u.heap.size, j, none⟩ = some x := by
  have hx : (u.alloc (.cells cs ty)).drew.heap[u.heap.size]? = some (.cells cs ty (0, 0)) := (MapKept.heap_alloc u _).1
  simp only [World.cell?, hx]
  simpa using h
set_option maxRecDepth 100000 in
set_option maxHeartbeats 8000000 in
theorem miss_any (h : Ax w0 v o K s t b L X) (ai : Ai s t L) (hK : K ≤ 1000000) :
    Calls Try.prog 129 #[ap o] v fun e w' => RoomQ w0 v o K s t b X (missA s t L).2.1 (missA s t L).2.2 (missA s t L).1 e w' := by
  have hL : ∀ i, i < 4 → (L i).length ≤ 4096 := fun i hi => by have := ai.c; have := ai.s2; match i, hi with | 0, _ => omega | 1, _ => omega | 2, _ => omega | 3, _ => omega
  have HX := Lib.hid h
  have HL4 := Lib.hid (fun u (hb : Below v.heap.size v u) => len_lit (n := 4) (h.below' hb) [0, 1, 2, 3] #[.int .i64 0, .int .i64 1, .int .i64 2, .int .i64 3] rfl (by simp) (by omega) (fun j i hj => by match j, hj with | 0, hj => cases hj; rfl | 1, hj => cases hj; rfl | 2, hj => cases hj; rfl | 3, hj => cases hj; rfl | k + 4, hj => simp at hj) hL)
  have HL1 := Lib.hid (fun u (hb : Below v.heap.size v u) g (hc : u.cell? ⟨g, 0, none⟩ = some (.int .i64 0)) => len_one h hL u hb 0 g (by omega) hc)
  have HL2 := Lib.hid (fun u (hb : Below v.heap.size v u) g (hc : u.cell? ⟨g, 0, none⟩ = some (.int .i64 0)) (hd : u.cell? ⟨g, 1, none⟩ = some (.int .i64 2)) => len_any (g := g) (c := 2) (n := 2) (h.below' hb) [0, 2] rfl (by simp) (by omega) (fun j i hj => by match j, hj with | 0, hj => cases hj; exact hc | 1, hj => cases hj; exact hd | k + 2, hj => simp at hj) hL)
  have e4 : sums L [0, 1, 2, 3] = (L 0).length + (L 1).length + (L 2).length + (L 3).length := by simp [sums]; omega
  have e2 : sums L [0, 2] = (L 0).length + (L 2).length := by simp [sums]
  rw [e4] at HL4
  rw [e2] at HL2
  have HI := Lib.hid (show (∀ k, X k → k < v.heap.size) ∧ w0.heap.size ≤ v.heap.size from ⟨h.xlt, h.bl.size⟩)
  have HAI := Lib.hid (show Ai s t L ∧ K ≤ 1000000 ∧ ∀ i, i < 4 → (L i).length ≤ 4096 from ⟨ai, hK, hL⟩)
  obtain ⟨n0, h0⟩ : ∃ n, (L 0).length = n := ⟨_, rfl⟩
  obtain ⟨n02, h02⟩ : ∃ n, (L 0).length + (L 2).length = n := ⟨_, rfl⟩
  obtain ⟨n4, h4⟩ : ∃ n, (L 0).length + (L 1).length + (L 2).length + (L 3).length = n := ⟨_, rfl⟩
  obtain ⟨R, hR⟩ : ∃ R, missA s t L = R := ⟨_, rfl⟩
  have HR := Lib.hid hR
  rw [hR]
  obtain ⟨L', left, x⟩ := R
  rw [h0] at HL1
  rw [h02] at HL2
  rw [h4] at HL4
  have HN := Lib.hid (show (L 0).length = n0 ∧ (L 0).length + (L 2).length = n02 ∧ (L 0).length + (L 1).length + (L 2).length + (L 3).length = n4 from ⟨h0, h02, h4⟩)
  have hb0 : Below v.heap.size v (v.alloc (.cells #[.bool false, .bool false, .int .u32 0] 110)) := by go_grown
  have hx0 := (MapKept.heap_alloc v (.cells #[.bool false, .bool false, .int .u32 0] 110)).1
  have hsz : (v.alloc (.cells #[.bool false, .bool false, .int .u32 0] 110)).heap.size = v.heap.size + 1 := by simp
  clear h ai hK hL e4 e2 h0 h02 h4 hR
  go_enter Try.func129, Try.ntmps129
  go_wp2_with fail
  generalize v.alloc (.cells #[.bool false, .bool false, .int .u32 0] 110) = v1 at *
  have X0 := Lib.hid hx0
  have B0 := Lib.hid hb0
  have SZ := Lib.hid hsz
  clear hx0 hb0 hsz
  have hc4 := HL4.out _ B0.out
  rw [SZ.out] at hc4
  refine hc4.mono ?_
  rintro e u2 ⟨rfl, hu2⟩
  clear hc4
  have B2 := Lib.hid (show Below v1.heap.size v1 u2 from by rw [← hu2]; go_grown)
  have HS := Lib.hid (fun u (hb : Below v1.heap.size v1 u) => (show u.cell? ⟨o, 0, none⟩ = some (.int .i64 (s : Int)) ∧ Hid (Below v1.heap.size v1 u) from ⟨(HX.out.below' (tr B0.out hb)).cells.1, Lib.hid hb⟩))
  clear hu2 HL4
  go_upto_region 2 with fail
  have K0 := Lib.hid (HS.out u2.drew (tr B2.out (by go_grown)))
  have K1 := Lib.hid (HS.out (u2.alloc (.cells #[.int .i64 0] 3)).drew (tr B2.out (by go_grown)))
  have HC := Lib.hid (HL1.out (u2.alloc (.cells #[.int .i64 0] 3)).drew (tr (tr B0.out B2.out) (by go_grown)) u2.heap.size (lit_cell _ _ _ 0 rfl))
  go_region_held3 (fun u => u.cell? ⟨o, 0, none⟩ = some (.int .i64 (s : Int)) ∧ Hid (Below v1.heap.size v1 u))
    (first
      | assumption
      | with_reducible exact K0.out
      | with_reducible exact K1.out
      | fail)
    (first
      | (go_at_call 130; refine HC.out.mono ?_; rintro e u3 ⟨rfl, rfl⟩)
      | fail)
  have B3 := Lib.hid K1.out.2.out
  clear K0 K1 HC B2 HL1
  generalize (u2.alloc (.cells #[.int .i64 0] 3)).drew = u3 at *
  have HY := Lib.hid (show ∀ u, Below v1.heap.size v1 u → Ax w0 u o K s t b L (fun k => X k ∨ k = v.heap.size) from fun u hb => (HX.out.below (tr B0.out hb)).only fun k hk => hk.imp id fun e => by have := SZ.out; have := hb.size; omega)
  have HBT := Lib.hid (fun u (hb : Below v1.heap.size v1 u) => (hb.block v.heap.size (by have := SZ.out; omega)).trans X0.out)
  by_cases c0 : n0 = s
  · have hd : ((n0 : Int) == (s : Int)) = true := by rw [beq_iff_eq]; omega
    have hd2 : (n0 : Int) = (s : Int) := by omega
    have hA : (L', left, x) = (upd L 0 (L 0).dropLast, true, (L 0).getLastD 0) := by rw [← HR.out]; unfold missA; rw [if_pos (by rw [HN.out.1]; exact c0)]
    obtain ⟨e1, e2, e3⟩ : L' = upd L 0 (L 0).dropLast ∧ left = true ∧ x = (L 0).getLastD 0 := by cases hA; exact ⟨rfl, rfl, rfl⟩
    have hp := last_of (show 0 < (L 0).length by rw [HN.out.1]; have := HAI.out.1.s1; omega)
    rw [← e3] at hp
    have HP := Lib.hid (apop_any (HY.out _ B3.out) 0 (by omega) hp)
    rw [← e1] at HP
    have HBX := Lib.hid (HBT.out _ B3.out)
    have BV := Lib.hid (tr B0.out B3.out)
    subst e2
    clear c0 hA e1 e3 hp HBT HY HS HL2 hd2
    rw [hd]
    go_wp2_with fail
    refine HP.out.mono ?_
    rintro e w4 ⟨rfl, hr⟩
    have HR4 := Lib.hid hr
    clear hr
    have hx5 := (HR4.out.2.1 v.heap.size (.inr rfl)).trans HBX.out
    obtain ⟨z0, z1, z2, zf⟩ := tbox hx5
    have X5 := Lib.hid hx5
    clear hx5
    go_wp2_with fail
    obtain ⟨hx6, hk6⟩ := tset (d0 := .bool false) (d1 := .bool true) (d2 := .int .u32 (x : Int)) X5.out
    generalize ((w4.setCell ⟨v.heap.size, 0, none⟩ (.bool false)).setCell ⟨v.heap.size, 1, none⟩ (.bool true)).setCell ⟨v.heap.size, 2, none⟩ (.int .u32 (x : Int)) = w6 at *
    obtain ⟨y0, y1, y2, -⟩ := tbox hx6
    exact bodyPost_ret (v := tv false true (x : Int)) (by simp [results, Try.results129, go_sem, y0, y1, y2]) rfl ⟨rfl, AxR.unbox (Y := fun k => X k ∨ k = v.heap.size) BV.out (fun k hk => .inl hk) HI.out.1 (Nat.le_refl _) (.inr rfl) HI.out.2 (HR4.out.mono (by omega)) hk6⟩
  · have hd : ((n0 : Int) == (s : Int)) = false := by rw [beq_eq_false_iff_ne]; omega
    rw [hd]
    clear hd
    go_upto_region 4 with fail
    have K0 := Lib.hid (HS.out u3.drew (tr B3.out (by go_grown)))
    have K1 := Lib.hid (HS.out (u3.alloc (.cells #[.int .i64 0, .int .i64 2] 3)).drew (tr B3.out (by go_grown)))
    have HC := Lib.hid (HL2.out (u3.alloc (.cells #[.int .i64 0, .int .i64 2] 3)).drew (tr (tr B0.out B3.out) (by go_grown)) u3.heap.size (lit_cell _ _ _ 0 rfl) (lit_cell _ _ _ 1 rfl))
    go_region_held3 (fun u => u.cell? ⟨o, 0, none⟩ = some (.int .i64 (s : Int)) ∧ Hid (Below v1.heap.size v1 u))
      (first
        | assumption
        | with_reducible exact K0.out
        | with_reducible exact K1.out
        | fail)
      (first
        | (go_at_call 130; refine HC.out.mono ?_; rintro e u4 ⟨rfl, rfl⟩)
        | fail)
    have B4 := Lib.hid K1.out.2.out
    have c5 := K1.out.1
    clear K0 K1 HC B3 HL2
    generalize (u3.alloc (.cells #[.int .i64 0, .int .i64 2] 3)).drew = u4 at *
    have HBX := Lib.hid (HBT.out _ B4.out)
    have BV := Lib.hid (tr B0.out B4.out)
    have HA := Lib.hid HAI.out.1
    by_cases c1 : n02 = s
    · have hd : ((n02 : Int) == (s : Int)) = true := by rw [beq_iff_eq]; omega
      have hA : roomA s t false (upd L 2 (L 2).dropLast) = (L', left, x) := by rw [← HR.out]; unfold missA; rw [if_neg (by rw [HN.out.1]; exact c0), if_pos (by rw [HN.out.2.1]; exact c1)]
      have hp := last_of (show 0 < (L 2).length by have := HN.out; have := HA.out.a; have := HA.out.b; omega)
      have HP := Lib.hid (apop_any (HY.out _ B4.out) 2 (by omega) hp)
      have HRO := Lib.hid (fun u (hu : Ax w0 u o K s t b (upd L 2 (L 2).dropLast) (fun k => X k ∨ k = v.heap.size)) => room_any hu HA.out.s1 (fun j hj => by by_cases hj2 : j = 2; (subst hj2; rw [upd_same, List.length_dropLast]; have := HAI.out.2.2 2 (by omega); omega); (rw [upd_other hj2]; exact HAI.out.2.2 j hj)) HAI.out.2.1 false (fun hf => fromA_ne hf HA.out.s1 HA.out.t1 (.inl (by rw [upd_other (by omega)]; have := HN.out; have := HA.out.b; omega))))
      rw [hA] at HRO
      clear hA hp HY HBT c0 c1 c5 HN HR HS
      rw [hd]
      go_wp2_with fail
      refine HP.out.mono ?_
      rintro e w4 ⟨rfl, hr⟩
      have HR4 := Lib.hid hr
      clear hr HP
      go_wp2_with fail
      refine (HRO.out _ HR4.out.1).mono ?_
      rintro e w5 ⟨rfl, hr⟩
      have HR5 := Lib.hid (HR4.out.trans hr)
      clear hr HRO
      have hx5 := (HR5.out.2.1 v.heap.size (.inr rfl)).trans HBX.out
      obtain ⟨z0, z1, z2, zf⟩ := tbox hx5
      have X5 := Lib.hid hx5
      clear hx5
      go_wp2_with fail
      obtain ⟨hx6, hk6⟩ := tset (d0 := .bool false) (d1 := .bool left) (d2 := .int .u32 (x : Int)) X5.out
      generalize ((w5.setCell ⟨v.heap.size, 0, none⟩ (.bool false)).setCell ⟨v.heap.size, 1, none⟩ (.bool left)).setCell ⟨v.heap.size, 2, none⟩ (.int .u32 (x : Int)) = w6 at *
      obtain ⟨y0, y1, y2, -⟩ := tbox hx6
      exact bodyPost_ret (v := tv false left (x : Int)) (by simp [results, Try.results129, go_sem, y0, y1, y2]) rfl ⟨rfl, AxR.unbox (Y := fun k => X k ∨ k = v.heap.size) BV.out (fun k hk => .inl hk) HI.out.1 (Nat.le_refl _) (.inr rfl) HI.out.2 HR5.out hk6⟩
    · have hd : ((n02 : Int) == (s : Int)) = false := by rw [beq_eq_false_iff_ne]; omega
      rw [hd]
      clear hd
      have wm := IntWalk.i64_in (2 * (s : Int)) (by have := HA.out.s2; omega)
      by_cases c2 : n4 = 2 * s
      · have hd : ((n4 : Int) == 2 * (s : Int)) = true := by rw [beq_iff_eq]; omega
        have hA0 : missA s t L = roomA s t false (upd L 3 (L 3).dropLast) := by unfold missA; rw [if_neg (by rw [HN.out.1]; exact c0), if_neg (by rw [HN.out.2.1]; exact c1), if_pos (by rw [HN.out.2.2]; exact c2)]
        have hA : roomA s t false (upd L 3 (L 3).dropLast) = (L', left, x) := by rw [← HR.out]; unfold missA; rw [if_neg (by rw [HN.out.1]; exact c0), if_neg (by rw [HN.out.2.1]; exact c1), if_pos (by rw [HN.out.2.2]; exact c2)]
        have hp := last_of (show 0 < (L 3).length by have := HN.out; have := HA.out.a; have := HA.out.b; omega)
        have HP := Lib.hid (apop_any (HY.out _ B4.out) 3 (by omega) hp)
        have HRO := Lib.hid (fun u (hu : Ax w0 u o K s t b (upd L 3 (L 3).dropLast) (fun k => X k ∨ k = v.heap.size)) => room_any hu HA.out.s1 (fun j hj => by by_cases hj2 : j = 3; (subst hj2; rw [upd_same, List.length_dropLast]; have := HAI.out.2.2 3 (by omega); omega); (rw [upd_other hj2]; exact HAI.out.2.2 j hj)) HAI.out.2.1 false (fun hf => fromA_ne hf HA.out.s1 HA.out.t1 (.inl (by rw [upd_other (by omega)]; have := HN.out; have := HA.out.b; omega))))
        rw [hA] at HRO
        clear hA hA0 hp HY HBT c0 c1 c2 HN HR HS
        go_wp2_with fail
        refine HP.out.mono ?_
        rintro e w4 ⟨rfl, hr⟩
        have HR4 := Lib.hid hr
        clear hr HP
        go_wp2_with fail
        refine (HRO.out _ HR4.out.1).mono ?_
        rintro e w5 ⟨rfl, hr⟩
        have HR5 := Lib.hid (HR4.out.trans hr)
        clear hr HRO
        have hx5 := (HR5.out.2.1 v.heap.size (.inr rfl)).trans HBX.out
        obtain ⟨z0, z1, z2, zf⟩ := tbox hx5
        have X5 := Lib.hid hx5
        clear hx5
        go_wp2_with fail
        obtain ⟨hx6, hk6⟩ := tset (d0 := .bool false) (d1 := .bool left) (d2 := .int .u32 (x : Int)) X5.out
        generalize ((w5.setCell ⟨v.heap.size, 0, none⟩ (.bool false)).setCell ⟨v.heap.size, 1, none⟩ (.bool left)).setCell ⟨v.heap.size, 2, none⟩ (.int .u32 (x : Int)) = w6 at *
        obtain ⟨y0, y1, y2, -⟩ := tbox hx6
        exact bodyPost_ret (v := tv false left (x : Int)) (by simp [results, Try.results129, go_sem, y0, y1, y2]) rfl ⟨rfl, AxR.unbox (Y := fun k => X k ∨ k = v.heap.size) BV.out (fun k hk => .inl hk) HI.out.1 (Nat.le_refl _) (.inr rfl) HI.out.2 HR5.out hk6⟩
      · have hd : ((n4 : Int) == 2 * (s : Int)) = false := by rw [beq_eq_false_iff_ne]; omega
        by_cases c3 : n4 < s
        · have hd3 : (n4 : Int) < (s : Int) := by omega
          have hA : (L', left, x) = (L, false, 0) := by rw [← HR.out]; unfold missA; rw [if_neg (by rw [HN.out.1]; exact c0), if_neg (by rw [HN.out.2.1]; exact c1), if_neg (by rw [HN.out.2.2]; exact c2), if_pos (by rw [HN.out.2.2]; exact c3)]
          obtain ⟨e1, e2, e3⟩ : L' = L ∧ left = false ∧ x = 0 := by cases hA; exact ⟨rfl, rfl, rfl⟩
          have HR4 := Lib.hid (AxR.mono (HY.out _ B4.out).r (Nat.le_succ K))
          rw [← e1] at HR4
          subst e2
          subst e3
          clear hA e1 HY HBT c0 c1 c2 c3 HN HR HS
          have hx5 := (HR4.out.2.1 v.heap.size (.inr rfl)).trans HBX.out
          obtain ⟨z0, z1, z2, zf⟩ := tbox hx5
          have X5 := Lib.hid hx5
          clear hx5
          go_wp2_with fail
          obtain ⟨hx6, hk6⟩ := tset (d0 := .bool false) (d1 := .bool false) (d2 := .int .u32 0) X5.out
          generalize ((u4.setCell ⟨v.heap.size, 0, none⟩ (.bool false)).setCell ⟨v.heap.size, 1, none⟩ (.bool false)).setCell ⟨v.heap.size, 2, none⟩ (.int .u32 0) = w6 at *
          obtain ⟨y0, y1, y2, -⟩ := tbox hx6
          exact bodyPost_ret (v := tv false false 0) (by simp [results, Try.results129, go_sem, y0, y1, y2]) rfl ⟨rfl, AxR.unbox (Y := fun k => X k ∨ k = v.heap.size) BV.out (fun k hk => .inl hk) HI.out.1 (Nat.le_refl _) (.inr rfl) HI.out.2 HR4.out hk6⟩
        · have hd3 : ¬ (n4 : Int) < (s : Int) := by omega
          have hA : roomA s t false L = (L', left, x) := by rw [← HR.out]; unfold missA; rw [if_neg (by rw [HN.out.1]; exact c0), if_neg (by rw [HN.out.2.1]; exact c1), if_neg (by rw [HN.out.2.2]; exact c2), if_neg (by rw [HN.out.2.2]; exact c3)]
          have HRO := Lib.hid (room_any (HY.out _ B4.out) HA.out.s1 HAI.out.2.2 HAI.out.2.1 false (fun hf => fromA_ne hf HA.out.s1 HA.out.t1 (.inl (by have := HN.out; have := HA.out.b; omega))))
          rw [hA] at HRO
          clear hA HY HBT c0 c1 c2 c3 HN HR HS
          go_wp2_with fail
          refine HRO.out.mono ?_
          rintro e w5 ⟨rfl, hr⟩
          have HR5 := Lib.hid hr
          clear hr HRO
          have hx5 := (HR5.out.2.1 v.heap.size (.inr rfl)).trans HBX.out
          obtain ⟨z0, z1, z2, zf⟩ := tbox hx5
          have X5 := Lib.hid hx5
          clear hx5
          go_wp2_with fail
          obtain ⟨hx6, hk6⟩ := tset (d0 := .bool false) (d1 := .bool left) (d2 := .int .u32 (x : Int)) X5.out
          generalize ((w5.setCell ⟨v.heap.size, 0, none⟩ (.bool false)).setCell ⟨v.heap.size, 1, none⟩ (.bool left)).setCell ⟨v.heap.size, 2, none⟩ (.int .u32 (x : Int)) = w6 at *
          obtain ⟨y0, y1, y2, -⟩ := tbox hx6
          exact bodyPost_ret (v := tv false left (x : Int)) (by simp [results, Try.results129, go_sem, y0, y1, y2]) rfl ⟨rfl, AxR.unbox (Y := fun k => X k ∨ k = v.heap.size) BV.out (fun k hk => .inl hk) HI.out.1 (Nat.le_refl _) (.inr rfl) HI.out.2 HR5.out hk6⟩
end
end Go.Proofs.Ytggimkfepcgaoaa.Arc
end
