/-
  Adaptive replacement (layer 29), pure: what a request, and a drop, make of a cache's lists.
-/
import Derived.Test.YtggimkfepcgaoaaArqG
import Derived.Test.YtggimkfepcgaoaaGhpE
import Derived.Test.YtggimkfepcgaoaaGhoP
import Derived.Deep.Cut
set_option linter.unusedVariables false
set_option linter.unusedSimpArgs false
section
namespace Go.Proofs.Ytggimkfepcgaoaa.Arc
open Go Go.RowKit Kit Go.Maps Lnk Gho
theorem move_st {L : Nat → List Nat} (nd : Nd L) {i k : Nat} (hi : i < 4) (hk : k ∈ L i) (hl : (L 1).length ≤ 2048) : St L (moveA L i k) (fun j y => (y ∈ L j ∧ y ≠ k) ∨ j = 1 ∧ y = k) (fun j => (L j).length - (if j = i then 1 else 0) + if j = 1 then 1 else 0) := by
  have h1 := st_ers nd hi hk
  have h2 := st_add h1.nd (i := 1) (by omega) (x := k) (fun j hj hx => ((h1.mem j _ hj).1 hx).2 rfl) (by have := h1.len 1 (by omega); split at this <;> omega)
  exact ⟨h2.nd, fun j y hj => (h2.mem j y hj).trans (by rw [h1.mem j y hj]), fun j hj => (h2.len j hj).trans (by rw [h1.len j hj])⟩
/-- what the law asks of a request -/
structure Us (s : Nat) (L : Nat → List Nat) (k : Nat) (t' : Int) (L' : Nat → List Nat) (hit left : Bool) (out : Nat) : Prop where
  ai : Ai s t' L'
  hit_ : hit = decide (k ∈ L 0 ∨ k ∈ L 1)
  left_ : left = true → hit = false ∧ (out ∈ L 0 ∨ out ∈ L 1) ∧ s ≤ (L 0).length + (L 1).length
  out_ : left = false → out = 0
  mem : ∀ y, (y ∈ L' 0 ∨ y ∈ L' 1) ↔ ((y ∈ L 0 ∨ y ∈ L 1) ∧ ¬ (left = true ∧ y = out)) ∨ y = k
  sub : ∀ j y, j < 4 → y ∈ L' j → y = k ∨ ∃ i, i < 4 ∧ y ∈ L i
theorem lens_of {L' : Nat → List Nat} {N : Nat → Int} (h : ∀ j, j < 4 → ((L' j).length : Int) = N j) : ((L' 0).length : Int) = N 0 ∧ ((L' 1).length : Int) = N 1 ∧ ((L' 2).length : Int) = N 2 ∧ ((L' 3).length : Int) = N 3 := ⟨h 0 (by omega), h 1 (by omega), h 2 (by omega), h 3 (by omega)⟩
theorem tgt2_le {s : Nat} {t : Int} {L : Nat → List Nat} (h0 : 0 ≤ t) : 0 ≤ tgt2 s t L ∧ tgt2 s t L ≤ s := by unfold tgt2; omega
theorem tgt3_le {s : Nat} {t : Int} {L : Nat → List Nat} (h1 : t ≤ s) : 0 ≤ tgt3 t L ∧ tgt3 t L ≤ s := by unfold tgt3; omega
/-- a hit -/
theorem us_hit {s : Nat} {t : Int} {L : Nat → List Nat} (h : Ai s t L) {i k : Nat} (hi : i < 2) (hk : k ∈ L i) : Us s L k t (moveA L i k) true false 0 := by
  obtain ⟨nd, a, b, c, t0, t1, s1, s2⟩ := h
  have st := move_st nd (by omega) hk (by omega)
  have hp := List.length_pos_of_mem hk
  obtain ⟨l0, l1, l2, l3⟩ := lens_of st.len
  have m0 := fun y => st.mem 0 y (by omega)
  have m1 := fun y => st.mem 1 y (by omega)
  have hi01 : i = 0 ∨ i = 1 := by omega
  refine ⟨⟨st.nd, ?_, ?_, ?_, t0, t1, s1, s2⟩, ?_, fun h => (by cases h), fun _ => rfl, fun y => ?_, fun j y hj hy => ?_⟩
  · rcases hi01 with rfl | rfl <;> simp at l0 l1 l2 l3 <;> omega
  · rcases hi01 with rfl | rfl <;> simp at l0 l1 l2 l3 <;> omega
  · rcases hi01 with rfl | rfl <;> simp at l0 l1 l2 l3 <;> omega
  · rcases hi01 with rfl | rfl <;> simp [hk]
  · rw [m0, m1]
    rcases hi01 with rfl | rfl <;> (by_cases hyk : y = k <;> simp [hyk])
  · rcases (st.mem j y hj).1 hy with h | h
    · exact .inr ⟨j, hj, h.1⟩
    · exact .inl h.2
theorem not_in {L : Nat → List Nat} (nd : Nd L) {i j y : Nat} (hi : i < 4) (hj : j < 4) (hy : y ∈ L i) (hne : i ≠ j) : y ∉ L j := fun h => hne (nd.two i j y hi hj hy h)
/-- found in a ghost list -/
theorem us_ghost {s : Nat} {t : Int} {L : Nat → List Nat} (h : Ai s t L) {i k : Nat} (hi : i = 2 ∨ i = 3) (hk : k ∈ L i) {t' : Int} (h0 : 0 ≤ t') (h1 : t' ≤ s) {found : Bool} (hf : i = 3 → found = true) :
    Us s L k t' (moveA (roomA s t' found L).1 i k) false (roomA s t' found L).2.1 (roomA s t' found L).2.2 := by
  obtain ⟨nd, a, b, c, t0, t1, s1, s2⟩ := h
  have hi4 : i < 4 := by omega
  have hp := List.length_pos_of_mem hk
  have hk0 : k ∉ L 0 := not_in nd hi4 (by omega) hk (by omega)
  have hk1 : k ∉ L 1 := not_in nd hi4 (by omega) hk (by omega)
  rcases room_st (t := t') (found := found) nd s1 s2 h1 (fun j hj => by match j, hj with | 0, _ => omega | 1, _ => omega | 2, _ => omega | 3, _ => omega) (by rcases hi with rfl | rfl; exact .inl (by omega); exact .inr (hf rfl)) with ⟨hr, e⟩ | ⟨hr, F, x, L1, hF, hx, e, -, -, st⟩
  · rw [e]
    show Us s L k t' (moveA L i k) false false 0
    have st := move_st nd hi4 hk (by omega)
    obtain ⟨l0, l1, l2, l3⟩ := lens_of st.len
    have m0 := fun y => st.mem 0 y (by omega)
    have m1 := fun y => st.mem 1 y (by omega)
    refine ⟨⟨st.nd, ?_, ?_, ?_, h0, h1, s1, s2⟩, by simp [hk0, hk1], fun h => (by cases h), fun _ => rfl, fun y => ?_, fun j y hj hy => ?_⟩
    · rcases hi with rfl | rfl <;> simp at l0 l1 l2 l3 <;> omega
    · rcases hi with rfl | rfl <;> simp at l0 l1 l2 l3 <;> omega
    · rcases hi with rfl | rfl <;> simp at l0 l1 l2 l3 <;> omega
    · show (y ∈ moveA L i k 0 ∨ y ∈ moveA L i k 1) ↔ _
      rw [m0, m1]
      by_cases hyk : y = k
      · simp [hyk]
      · simp [hyk]
    · rcases (st.mem j y hj).1 hy with h | h
      · exact .inr ⟨j, hj, h.1⟩
      · exact .inl h.2
  · rw [e]
    show Us s L k t' (moveA L1 i k) false true x
    have hxk : x ≠ k := fun e => by subst e; exact not_in nd hi4 (by omega) hk (by omega) hx
    have hk2 : k ∈ L1 i := (st.mem i k hi4).2 (.inl ⟨hk, fun e => hxk e.symm⟩)
    have l1' := st.len 1 (by omega)
    have st2 := move_st st.nd hi4 hk2 (by split at l1' <;> split at l1' <;> omega)
    obtain ⟨l0, l1, l2, l3⟩ := lens_of st2.len
    obtain ⟨q0, q1, q2, q3⟩ := lens_of st.len
    have m0 := fun y => (st2.mem 0 y (by omega)).trans (or_congr (and_congr (st.mem 0 y (by omega)) Iff.rfl) Iff.rfl)
    have m1 := fun y => (st2.mem 1 y (by omega)).trans (or_congr (and_congr (st.mem 1 y (by omega)) Iff.rfl) Iff.rfl)
    have hF01 : F = 0 ∨ F = 1 := by omega
    have hxp := List.length_pos_of_mem hx
    refine ⟨⟨st2.nd, ?_, ?_, ?_, h0, h1, s1, s2⟩, by simp [hk0, hk1], fun _ => ⟨rfl, by rcases hF01 with rfl | rfl; exact .inl hx; exact .inr hx, hr⟩, fun h => (by cases h), fun y => ?_, fun j y hj hy => ?_⟩
    · rcases hi with rfl | rfl <;> rcases hF01 with rfl | rfl <;> simp at l0 l1 l2 l3 q0 q1 q2 q3 <;> omega
    · rcases hi with rfl | rfl <;> rcases hF01 with rfl | rfl <;> simp at l0 l1 l2 l3 q0 q1 q2 q3 <;> omega
    · rcases hi with rfl | rfl <;> rcases hF01 with rfl | rfl <;> simp at l0 l1 l2 l3 q0 q1 q2 q3 <;> omega
    · show (y ∈ moveA L1 i k 0 ∨ y ∈ moveA L1 i k 1) ↔ _
      rw [m0, m1]
      have f0 : ¬ 0 = F + 2 := by omega
      have f1 : ¬ 1 = F + 2 := by omega
      by_cases hyk : y = k
      · simp [hyk]
      · by_cases hyx : y = x
        · subst hyx; simp [hyk, f0, f1]
        · simp [hyk, hyx, f0, f1]
    · rcases (st2.mem j y hj).1 hy with h | h
      · rcases (st.mem j y hj).1 h.1 with h | h
        · exact .inr ⟨j, hj, h.1⟩
        · exact .inr ⟨F, by omega, h.2 ▸ hx⟩
      · exact .inl h.2
/-- a key that is nowhere is added to once -/
theorem us_add {s : Nat} {t : Int} {L L1 : Nat → List Nat} {k : Nat} {M : Nat → Nat → Prop} {N : Nat → Int} {left : Bool} {out : Nat} (h : Ai s t L) (hk : ∀ j, j < 4 → k ∉ L j) (st : St L L1 M N)
    (hM : ∀ j y, j < 4 → M j y → ∃ i, i < 4 ∧ y ∈ L i) (hM2 : ∀ y, (M 0 y ∨ M 1 y) ↔ ((y ∈ L 0 ∨ y ∈ L 1) ∧ ¬ (left = true ∧ y = out)))
    (h1 : N 0 + 1 + N 1 ≤ s) (h2 : N 0 + 1 + N 2 ≤ s) (h3 : N 0 + 1 + N 1 + N 2 + N 3 ≤ 2 * s)
    (hleft : left = true → (out ∈ L 0 ∨ out ∈ L 1) ∧ s ≤ (L 0).length + (L 1).length) (hout : left = false → out = 0) :
    Us s L k t (upd L1 0 (addG 4096 (L1 0) k).1) false left out := by
  obtain ⟨nd, a, b, c, t0, t1, s1, s2⟩ := h
  have hk1 : ∀ j, j < 4 → k ∉ L1 j := fun j hj hx => by
    obtain ⟨i, hi, hy⟩ := hM j k hj ((st.mem j k hj).1 hx)
    exact hk i hi hy
  have n0 := st.len 0 (by omega)
  have n1 := st.len 1 (by omega)
  have n2 := st.len 2 (by omega)
  have n3 := st.len 3 (by omega)
  have st2 := st_add st.nd (i := 0) (by omega) hk1 (by omega)
  obtain ⟨l0, l1, l2, l3⟩ := lens_of st2.len
  simp at l0 l1 l2 l3
  have m0 := fun y => (st2.mem 0 y (by omega)).trans (or_congr (st.mem 0 y (by omega)) Iff.rfl)
  have m1 := fun y => (st2.mem 1 y (by omega)).trans (or_congr (st.mem 1 y (by omega)) Iff.rfl)
  refine ⟨⟨st2.nd, by omega, by omega, by omega, t0, t1, s1, s2⟩, by simp [hk 0 (by omega), hk 1 (by omega)], fun h => ⟨rfl, hleft h⟩, hout, fun y => ?_, fun j y hj hy => ?_⟩
  · rw [m0, m1, ← hM2 y]
    constructor
    · rintro ((h | h) | (h | h))
      · exact .inl (.inl h)
      · exact .inr h.2
      · exact .inl (.inr h)
      · exact .inr h.2
    · rintro ((h | h) | h)
      · exact .inl (.inl h)
      · exact .inr (.inl h)
      · exact .inl (.inr ⟨rfl, h⟩)
  · rcases (st2.mem j y hj).1 hy with h | h
    · exact .inr (hM j y hj ((st.mem j y hj).1 h))
    · exact .inl h.2
/-- room is made behind a step that took a ghost away, or none -/
theorem us_room {s : Nat} {t : Int} {L L1 : Nat → List Nat} {k : Nat} {M : Nat → Nat → Prop} {N : Nat → Int} (h : Ai s t L) (hk : ∀ j, j < 4 → k ∉ L j) (st : St L L1 M N)
    (hM : ∀ j y, j < 4 → M j y → y ∈ L j) (hM0 : ∀ y, y ∈ L 0 → M 0 y) (hM1 : ∀ y, y ∈ L 1 → M 1 y) (e0 : N 0 = (L 0).length) (e1 : N 1 = (L 1).length) (hs : (L 0).length < s)
    (h2 : N 0 + 1 + N 2 ≤ s) (h3 : N 0 + 1 + N 1 + N 2 + N 3 ≤ 2 * s) :
    Us s L k t (upd (roomA s t false L1).1 0 (addG 4096 ((roomA s t false L1).1 0) k).1) false (roomA s t false L1).2.1 (roomA s t false L1).2.2 := by
  obtain ⟨n0, n1, n2, n3⟩ := lens_of st.len
  have hai := h
  obtain ⟨nd, a, b, c, t0, t1, s1, s2⟩ := h
  rcases room_st (t := t) (found := false) st.nd s1 s2 t1 (fun j hj => by match j, hj with | 0, _ => omega | 1, _ => omega | 2, _ => omega | 3, _ => omega) (.inl (by omega)) with ⟨hr, e⟩ | ⟨hr, F, x, L2, hF, hx, e, -, -, st2⟩
  · rw [e]
    show Us s L k t (upd L1 0 (addG 4096 (L1 0) k).1) false false 0
    refine us_add hai hk st (fun j y hj h => ⟨j, hj, hM j y hj h⟩) (fun y => ?_) (by omega) h2 h3 (fun h => (by cases h)) fun _ => rfl
    simp only [Bool.false_eq_true, false_and, not_false_eq_true, and_true]
    exact ⟨fun h => h.imp (hM 0 y (by omega)) (hM 1 y (by omega)), fun h => h.imp (hM0 y) (hM1 y)⟩
  · rw [e]
    show Us s L k t (upd L2 0 (addG 4096 (L2 0) k).1) false true x
    have hF01 : F = 0 ∨ F = 1 := by omega
    have hxL : x ∈ L F := hM F x (by omega) ((st.mem F x (by omega)).1 hx)
    have hxp := List.length_pos_of_mem hx
    have st3 : St L L2 (fun j y => (M j y ∧ y ≠ x) ∨ j = F + 2 ∧ y = x) (fun j => N j - (if j = F then 1 else 0) + if j = F + 2 then 1 else 0) :=
      ⟨st2.nd, fun j y hj => (st2.mem j y hj).trans (or_congr (and_congr (st.mem j y hj) Iff.rfl) Iff.rfl), fun j hj => by rw [st2.len j hj, st.len j hj]⟩
    refine us_add hai hk st3 (fun j y hj h => ?_) (fun y => ?_) ?_ ?_ ?_ (fun _ => ⟨by rcases hF01 with rfl | rfl; exact .inl hxL; exact .inr hxL, by omega⟩) fun h => (by cases h)
    · rcases h with h | h
      · exact ⟨j, hj, hM j y hj h.1⟩
      · exact ⟨F, by omega, h.2 ▸ hxL⟩
    · have f0 : ¬ 0 = F + 2 := by omega
      have f1 : ¬ 1 = F + 2 := by omega
      simp only [f0, f1, false_and, or_false, true_and]
      constructor
      · rintro (h | h)
        · exact ⟨.inl (hM 0 y (by omega) h.1), h.2⟩
        · exact ⟨.inr (hM 1 y (by omega) h.1), h.2⟩
      · rintro ⟨h | h, hne⟩
        · exact .inl ⟨hM0 y h, hne⟩
        · exact .inr ⟨hM1 y h, hne⟩
    · rcases hF01 with rfl | rfl <;> simp <;> omega
    · rcases hF01 with rfl | rfl <;> simp <;> omega
    · rcases hF01 with rfl | rfl <;> simp <;> omega
/-- what a request makes -/
theorem use_spec {s : Nat} {t : Int} {L : Nat → List Nat} (h : Ai s t L) (k : Nat) : Us s L k (useA s t L k).1 (useA s t L k).2.1 (useA s t L k).2.2.1 (useA s t L k).2.2.2.1 (useA s t L k).2.2.2.2 := by
  unfold useA
  by_cases k0 : k ∈ L 0
  · rw [if_pos k0]; exact us_hit h (by omega) k0
  rw [if_neg k0]
  by_cases k1 : k ∈ L 1
  · rw [if_pos k1]; exact us_hit h (by omega) k1
  rw [if_neg k1]
  by_cases k2 : k ∈ L 2
  · rw [if_pos k2]; exact us_ghost h (.inl rfl) k2 (tgt2_le h.t0).1 (tgt2_le h.t0).2 (fun h => by omega)
  rw [if_neg k2]
  by_cases k3 : k ∈ L 3
  · rw [if_pos k3]; exact us_ghost h (.inr rfl) k3 (tgt3_le h.t1).1 (tgt3_le h.t1).2 (fun _ => rfl)
  rw [if_neg k3]
  have hk : ∀ j, j < 4 → k ∉ L j := fun j hj => by match j, hj with | 0, _ => exact k0 | 1, _ => exact k1 | 2, _ => exact k2 | 3, _ => exact k3
  have hai := h
  obtain ⟨nd, a, b, c, t0, t1, s1, s2⟩ := h
  have self : St L L (fun j y => y ∈ L j) (fun j => (L j).length) := ⟨nd, fun _ _ _ => Iff.rfl, fun _ _ => rfl⟩
  unfold missA
  by_cases c0 : (L 0).length = s
  · rw [if_pos c0]
    have hp := last_of (show 0 < (L 0).length by omega)
    have hx : (L 0).getLastD 0 ∈ L 0 := by have := List.mem_append_right (L 0).dropLast (List.mem_singleton_self ((L 0).getLastD 0)); rwa [← hp] at this
    have st := st_last nd (by omega) hp
    refine us_add hai hk st (fun j y hj h => ⟨j, hj, h.1⟩) (fun y => ?_) (by simp; omega) (by simp; omega) (by simp; omega) (fun _ => ⟨.inl hx, by omega⟩) fun h => (by cases h)
    simp only [true_and]
    constructor
    · rintro (h | h)
      · exact ⟨.inl h.1, h.2⟩
      · exact ⟨.inr h.1, h.2⟩
    · rintro ⟨h | h, hne⟩
      · exact .inl ⟨h, hne⟩
      · exact .inr ⟨h, hne⟩
  rw [if_neg c0]
  by_cases c1 : (L 0).length + (L 2).length = s
  · rw [if_pos c1]
    have hp := last_of (show 0 < (L 2).length by omega)
    have hx : (L 2).getLastD 0 ∈ L 2 := by have := List.mem_append_right (L 2).dropLast (List.mem_singleton_self ((L 2).getLastD 0)); rwa [← hp] at this
    have st := st_last nd (by omega) hp
    exact us_room hai hk st (fun j y hj h => h.1) (fun y hy => ⟨hy, fun e => not_in nd (by omega) (by omega) hx (by omega) (e ▸ hy)⟩) (fun y hy => ⟨hy, fun e => not_in nd (by omega) (by omega) hx (by omega) (e ▸ hy)⟩) (by simp) (by simp) (by omega) (by simp; omega) (by simp; omega)
  rw [if_neg c1]
  by_cases c2 : (L 0).length + (L 1).length + (L 2).length + (L 3).length = 2 * s
  · rw [if_pos c2]
    have hp := last_of (show 0 < (L 3).length by omega)
    have hx : (L 3).getLastD 0 ∈ L 3 := by have := List.mem_append_right (L 3).dropLast (List.mem_singleton_self ((L 3).getLastD 0)); rwa [← hp] at this
    have st := st_last nd (by omega) hp
    exact us_room hai hk st (fun j y hj h => h.1) (fun y hy => ⟨hy, fun e => not_in nd (by omega) (by omega) hx (by omega) (e ▸ hy)⟩) (fun y hy => ⟨hy, fun e => not_in nd (by omega) (by omega) hx (by omega) (e ▸ hy)⟩) (by simp) (by simp) (by omega) (by simp; omega) (by simp; omega)
  rw [if_neg c2]
  by_cases c3 : (L 0).length + (L 1).length + (L 2).length + (L 3).length < s
  · rw [if_pos c3]
    refine us_add hai hk self (fun j y hj h => ⟨j, hj, h⟩) (fun y => ?_) (by omega) (by omega) (by omega) (fun h => (by cases h)) fun _ => rfl
    simp
  · rw [if_neg c3]
    exact us_room hai hk self (fun j y hj h => h) (fun y hy => hy) (fun y hy => hy) rfl rfl (by omega) (by omega) (by omega)
end Go.Proofs.Ytggimkfepcgaoaa.Arc
end
section
namespace Go.Proofs.Ytggimkfepcgaoaa.Gho
open Go Go.RowKit Kit Go.Maps Lnk
set_option maxRecDepth 100000 in
theorem rpop_none {w : World} {p : Option Addr} {c : Nat} (most : Int) :
    Calls Try.prog 111 #[rg most p 0 c] w fun e w' => e = .returned (.tuple #[rg most p 0 c, .int .u32 0, .int .i64 9]) ∧ Below w.heap.size w w' := by
  go_enter Try.func111, Try.ntmps111
  go_wp2_with fail
  exact bodyPost_ret (v := .tuple #[rg most p 0 c, .int .u32 0, .int .i64 9]) (by simp [results, Try.results111, go_sem]) rfl ⟨rfl, by go_grown⟩
set_option maxRecDepth 100000 in
theorem rnew_any {w : World} {n : Int} (h0 : 0 ≤ n) (h1 : n ≤ 4096) :
    Calls Try.prog 37 #[.int .i64 n] w fun e w' => e = .returned (.tuple #[rg n none 0 0, .int .i64 0]) ∧ Below w.heap.size w w' := by
  have g0 : ¬ n < 0 := by omega
  have g1 : ¬ 4096 < n := by omega
  clear h0 h1
  go_enter Try.func37, Try.ntmps37
  go_wp2_with fail
  exact bodyPost_ret (v := .tuple #[rg n none 0 0, .int .i64 0]) (by simp [results, Try.results37, go_sem]) rfl ⟨rfl, by go_grown⟩
end Go.Proofs.Ytggimkfepcgaoaa.Gho
end
section
namespace Go.Proofs.Ytggimkfepcgaoaa.Gho
open Go Go.RowKit Kit Go.Maps Lnk
set_option maxRecDepth 100000 in
set_option maxHeartbeats 2000000 in
theorem radd_low {w : World} {p : Option Addr} {n c most : Nat} {l : List Nat} (hl : l.length = n) (hn : n ≤ 100000) (r : Ru w p (ints l)) (x : Nat) (hm : (wout l x).length + 1 ≤ most) :
    Calls Try.prog 109 #[rg (most : Int) p n c, .int .u32 (x : Int)] w fun e w' => ∃ q k, e = .returned (.tuple #[rg (most : Int) q ((wout l x).length + 1) k, .int .u32 0, .bool false]) ∧ w'.ownsRow w.heap.size 38 1 (.slice q ((wout l x).length + 1) k) ((wout l x).length + 1) ((ints (x :: wout l x)).map (Value.int .u32)) ∧ Below w.heap.size w w' := by
  obtain ⟨i0, hi0, hz0, hz1, hz2⟩ := u_parts
  have HW := Lib.hid (fun (v : World) (hb : Below w.heap.size w v) => rwithout_any (c := c) hl (by omega) (r.below hb) x)
  have hwl := wout_len l x
  obtain ⟨m, hwm⟩ : ∃ m, (wout l x).length = m := ⟨_, rfl⟩
  have HM := Lib.hid (show (wout l x).length = m ∧ m ≤ 100000 ∧ m + 1 ≤ most from ⟨hwm, by omega, by omega⟩)
  rw [hwm] at HW ⊢
  have hmm : ((m : Int) + 1) ≤ (most : Int) := by omega
  clear hl hn r hm hwl hwm
  go_enter Try.func109, Try.ntmps109
  go_wp2_with fail
  have hb23 : Below ((w.alloc (.cells #[.int .i64 (most : Int), .slice p n c] 69)).alloc (.cells #[.int .i64 0, .slice none 0 0] 69)).heap.size ((w.alloc (.cells #[.int .i64 (most : Int), .slice p n c] 69)).alloc (.cells #[.int .i64 0, .slice none 0 0] 69)) (((w.alloc (.cells #[.int .i64 (most : Int), .slice p n c] 69)).alloc (.cells #[.int .i64 0, .slice none 0 0] 69)).alloc (.cells #[.int .u32 (x : Int)] 38)) := by go_grown
  have b3 : Below w.heap.size w (((w.alloc (.cells #[.int .i64 (most : Int), .slice p n c] 69)).alloc (.cells #[.int .i64 0, .slice none 0 0] 69)).alloc (.cells #[.int .u32 (x : Int)] 38)) := by go_grown
  have htb := two_boxes (w := w) (most := (most : Int)) (v := .slice p n c)
  have hs2 : ((w.alloc (.cells #[.int .i64 (most : Int), .slice p n c] 69)).alloc (.cells #[.int .i64 0, .slice none 0 0] 69)).heap.size = w.heap.size + 1 + 1 := by simp
  have X3 := Lib.hid (show (((w.alloc (.cells #[.int .i64 (most : Int), .slice p n c] 69)).alloc (.cells #[.int .i64 0, .slice none 0 0] 69)).alloc (.cells #[.int .u32 (x : Int)] 38)).heap[w.heap.size]? = some (.cells #[.int .i64 (most : Int), .slice p n c] 69 (0, 0)) ∧ (((w.alloc (.cells #[.int .i64 (most : Int), .slice p n c] 69)).alloc (.cells #[.int .i64 0, .slice none 0 0] 69)).alloc (.cells #[.int .u32 (x : Int)] 38)).heap[w.heap.size + 1]? = some (.cells #[.int .i64 0, .slice none 0 0] 69 (0, 0)) ∧ Below w.heap.size w (((w.alloc (.cells #[.int .i64 (most : Int), .slice p n c] 69)).alloc (.cells #[.int .i64 0, .slice none 0 0] 69)).alloc (.cells #[.int .u32 (x : Int)] 38)) from ⟨(hb23.block _ (by omega)).trans htb.1, (hb23.block _ (by omega)).trans htb.2, b3⟩)
  have one := App.one_own ((w.alloc (.cells #[.int .i64 (most : Int), .slice p n c] 69)).alloc (.cells #[.int .i64 0, .slice none 0 0] 69)) (.int .u32 (x : Int)) 38
  rw [hs2] at one
  have hs3 : (((w.alloc (.cells #[.int .i64 (most : Int), .slice p n c] 69)).alloc (.cells #[.int .i64 0, .slice none 0 0] 69)).alloc (.cells #[.int .u32 (x : Int)] 38)).heap.size = w.heap.size + 1 + 1 + 1 := by simp
  clear hb23 b3 htb hs2
  generalize (((w.alloc (.cells #[.int .i64 (most : Int), .slice p n c] 69)).alloc (.cells #[.int .i64 0, .slice none 0 0] 69)).alloc (.cells #[.int .u32 (x : Int)] 38)) = w3 at *
  refine (HW.out _ X3.out.2.2).mono ?_
  rintro e w4 ⟨u, rfl, hrow, b4⟩
  have hs4 := b4.size
  have ONE := Lib.hid (row_kp one fun g hg => b4.block g (by have := (one.lt g hg).2; omega))
  obtain ⟨q1, k1, rfl, rg1, len1⟩ := App.own_rg hrow
  have RG1 := Lib.hid rg1
  have LEN1 := Lib.hid len1
  have X4 := Lib.hid (show w4.heap[w.heap.size]? = some (.cells #[.int .i64 (most : Int), .slice p n c] 69 (0, 0)) ∧ w4.heap[w.heap.size + 1]? = some (.cells #[.int .i64 0, .slice none 0 0] 69 (0, 0)) ∧ Below w.heap.size w w4 ∧ w.heap.size + 1 + 1 ≤ w4.heap.size from ⟨(b4.block _ (by omega)).trans X3.out.1, (b4.block _ (by omega)).trans X3.out.2.1, X3.out.2.2.trans (b4.mono (by omega)), by omega⟩)
  clear one rg1 len1 hrow b4 hs4 hs3 X3
  obtain ⟨L, hL⟩ : ∃ L, 1 + m = L := ⟨_, rfl⟩
  have hLm : (L : Int) ≤ (most : Int) := by have := HM.out; omega
  have HLL := Lib.hid hL
  clear hL
  go_wp2_with (first
    | (at_builtin; refine App.wpList_appG rfl (.tmp 9) (.tmp 13) 39 rfl (w.heap.size + 1 + 1) 38 i0 (.int .u32 0) 4 Try.underlying39 hi0 hz0 hz1 hz2 rfl _ 1 [.int .u32 (x : Int)] rfl ONE.out q1 m k1 _ rfl LEN1.out RG1.out (u32_cell1 _) (by have := HM.out; omega) (by omega) X4.out.2.2.2 ?_; intro v5 w5 o5 b5 s5; rw [HLL.out] at o5; obtain ⟨q, kc, rfl, -, -⟩ := App.own_form o5; have X5 := Lib.hid (show w5.heap[w.heap.size]? = some (.cells #[.int .i64 (most : Int), .slice p n c] 69 (0, 0)) ∧ w5.heap[w.heap.size + 1]? = some (.cells #[.int .i64 0, .slice none 0 0] 69 (0, 0)) ∧ Below w.heap.size w w5 from ⟨(b5.block _ (by omega)).trans X4.out.1, (b5.block _ (by omega)).trans X4.out.2.1, X4.out.2.2.1.trans (b5.mono (by omega))⟩); have HROW := Lib.hid o5; (obtain ⟨f0, f1, f2, f3⟩ : w5.cell? ⟨w.heap.size, 0, none⟩ = some (.int .i64 (most : Int)) ∧ w5.cell? ⟨w.heap.size, 1, none⟩ = some (.slice p n c) ∧ w5.cell? ⟨w.heap.size + 1, 0, none⟩ = some (.int .i64 0) ∧ w5.cell? ⟨w.heap.size + 1, 1, none⟩ = some (.slice none 0 0) := by have h1 := X5.out.1; have h2 := X5.out.2.1; refine ⟨?_, ?_, ?_, ?_⟩ <;> simp [World.cell?, h1, h2]); (obtain ⟨g0, g1⟩ : (∀ j, w5.frozen? ⟨w.heap.size, j, none⟩ = false) ∧ (∀ j, w5.frozen? ⟨w.heap.size + 1, j, none⟩ = false) := by have h1 := X5.out.1; have h2 := X5.out.2.1; refine ⟨fun j => ?_, fun j => ?_⟩ <;> simp [World.frozen?, h1, h2]); clear o5 b5 s5)
    | fail)
  have hbl := ((X5.out.2.2.setCell (p := ⟨w.heap.size, 1, none⟩) (Nat.le_refl _) (.slice q L kc)).setCell (p := ⟨w.heap.size + 1, 0, none⟩) (by show w.heap.size ≤ w.heap.size + 1; omega) (.int .i64 (most : Int))).setCell (p := ⟨w.heap.size + 1, 1, none⟩) (by show w.heap.size ≤ w.heap.size + 1; omega) (.slice q L kc)
  have hfin := heap_set (j := 1) (heap_set (j := 0) ((Below.heap_setCell w5 ⟨w.heap.size, 1, none⟩ (.slice q L kc) (w.heap.size + 1) (by show w.heap.size + 1 ≠ w.heap.size; omega)).trans X5.out.2.1) (.int .i64 (most : Int))) (.slice q L kc)
  have hrw : (((w5.setCell ⟨w.heap.size, 1, none⟩ (.slice q L kc)).setCell ⟨w.heap.size + 1, 0, none⟩ (.int .i64 (most : Int))).setCell ⟨w.heap.size + 1, 1, none⟩ (.slice q L kc)).ownsRow w.heap.size 38 1 (.slice q L kc) L ((ints (x :: wout l x)).map (Value.int .u32)) := by
    refine App.own_lift (row_kp HROW.out fun g hg => ?_) (by omega)
    have h1 := (HROW.out.lt g hg).1
    have n1 : g ≠ w.heap.size + 1 := by omega
    have n2 : g ≠ w.heap.size := by omega
    rw [Below.heap_setCell _ ⟨w.heap.size + 1, 1, none⟩ _ g n1, Below.heap_setCell _ ⟨w.heap.size + 1, 0, none⟩ _ g n1, Below.heap_setCell _ ⟨w.heap.size, 1, none⟩ _ g n2]
  generalize ((w5.setCell ⟨w.heap.size, 1, none⟩ (.slice q L kc)).setCell ⟨w.heap.size + 1, 0, none⟩ (.int .i64 (most : Int))).setCell ⟨w.heap.size + 1, 1, none⟩ (.slice q L kc) = w6 at *
  obtain ⟨z0, z1⟩ : w6.cell? ⟨w.heap.size + 1, 0, none⟩ = some (.int .i64 (most : Int)) ∧ w6.cell? ⟨w.heap.size + 1, 1, none⟩ = some (.slice q L kc) := by constructor <;> simp [World.cell?, hfin]
  have hLe : m + 1 = L := by have := HLL.out; omega
  rw [hLe]
  exact bodyPost_ret (v := .tuple #[rg (most : Int) q L kc, .int .u32 0, .bool false]) (by simp [results, Try.results109, go_sem, z0, z1]) rfl ⟨q, kc, rfl, hrw, hbl⟩
end Go.Proofs.Ytggimkfepcgaoaa.Gho
end
section
namespace Go.Proofs.Ytggimkfepcgaoaa.Gho
open Go Go.RowKit Kit Go.Maps Lnk
theorem wout_erase {l : List Nat} (h : l.Nodup) (x : Nat) : wout l x = l.erase x := by
  unfold wout
  rw [h.erase_eq_filter]
theorem row_ruH {w : World} {B n : Nat} {v : Value} {l : List Int} (h : w.ownsRow B 38 1 v n (l.map (Value.int .u32))) (hl : l.length = n) : ∃ p c, v = .slice p n c ∧ Ru w p l ∧ ∀ y, p = some y → B ≤ y.block := by
  subst hl
  rcases own_cases h with ⟨rfl, rfl⟩ | ⟨g, cap, rfl, h1, h2, h3, h4, h5⟩
  · exact ⟨none, 0, rfl, fun i x hx => by simp at hx, fun y hy => by cases hy⟩
  · refine ⟨_, cap, rfl, fun i x hx => ?_, fun y hy => by cases hy; exact h1⟩
    obtain ⟨hi, he⟩ := List.getElem?_eq_some_iff.1 hx
    exact ⟨_, rfl, h2, by rw [add2]; have := h5 i hi; rw [he] at this; exact this⟩
/-- what the reference's Add makes -/
def addR (most : Int) (l : List Nat) (x : Nat) : List Nat × Nat × Bool :=
  if ((wout l x).length : Int) + 1 ≤ most then (x :: wout l x, 0, false) else ((x :: wout l x).dropLast, (x :: wout l x).getLastD 0, true)
theorem addR_eq {most : Int} {l : List Nat} (h : l.Nodup) (hm : (l.length : Int) ≤ most) (x : Nat) : addR most l x = addG most l x := by
  unfold addR addG
  rw [wout_erase h]
  by_cases hx : x ∈ l
  · have hp := List.length_pos_of_mem hx
    have hl := List.length_erase_of_mem hx
    rw [if_pos hx, if_pos (by omega)]
  · rw [if_neg hx, List.erase_of_not_mem hx]
theorem addG_len {most : Int} {l : List Nat} (hm : (l.length : Int) ≤ most) (x : Nat) : ((addG most l x).1.length : Int) ≤ most ∧ (addG most l x).1.length ≤ l.length + 1 := by
  unfold addG
  by_cases hx : x ∈ l
  · have hp := List.length_pos_of_mem hx
    have hl := List.length_erase_of_mem hx
    rw [if_pos hx, List.length_cons]
    omega
  · rw [if_neg hx]
    split
    · rw [List.length_cons]; omega
    · rw [List.length_dropLast, List.length_cons]; omega
set_option maxRecDepth 100000 in
set_option maxHeartbeats 2000000 in
theorem radd_high {w : World} {p : Option Addr} {n c most : Nat} {l : List Nat} (hl : l.length = n) (hn : n ≤ 100000) (r : Ru w p (ints l)) (x : Nat) (hm : ¬ (wout l x).length + 1 ≤ most) :
    Calls Try.prog 109 #[rg (most : Int) p n c, .int .u32 (x : Int)] w fun e w' => ∃ q k, e = .returned (.tuple #[rg (most : Int) q (wout l x).length k, .int .u32 ((x :: wout l x).getLastD 0 : Int), .bool true]) ∧ w'.ownsRow w.heap.size 38 1 (.slice q (wout l x).length k) (wout l x).length ((ints (x :: wout l x).dropLast).map (Value.int .u32)) ∧ Below w.heap.size w w' := by
  obtain ⟨i0, hi0, hz0, hz1, hz2⟩ := u_parts
  have HW := Lib.hid (fun (v : World) (hb : Below w.heap.size w v) => rwithout_any (c := c) hl (by omega) (r.below hb) x)
  have hwl := wout_len l x
  obtain ⟨m, hwm⟩ : ∃ m, (wout l x).length = m := ⟨_, rfl⟩
  have HM := Lib.hid (show (wout l x).length = m ∧ m ≤ 100000 ∧ ¬ m + 1 ≤ most from ⟨hwm, by omega, by omega⟩)
  rw [hwm] at HW ⊢
  have hmm : ¬ ((m : Int) + 1) ≤ (most : Int) := by omega
  clear hl hn r hm hwl hwm
  go_enter Try.func109, Try.ntmps109
  go_wp2_with fail
  have hb23 : Below ((w.alloc (.cells #[.int .i64 (most : Int), .slice p n c] 69)).alloc (.cells #[.int .i64 0, .slice none 0 0] 69)).heap.size ((w.alloc (.cells #[.int .i64 (most : Int), .slice p n c] 69)).alloc (.cells #[.int .i64 0, .slice none 0 0] 69)) (((w.alloc (.cells #[.int .i64 (most : Int), .slice p n c] 69)).alloc (.cells #[.int .i64 0, .slice none 0 0] 69)).alloc (.cells #[.int .u32 (x : Int)] 38)) := by go_grown
  have b3 : Below w.heap.size w (((w.alloc (.cells #[.int .i64 (most : Int), .slice p n c] 69)).alloc (.cells #[.int .i64 0, .slice none 0 0] 69)).alloc (.cells #[.int .u32 (x : Int)] 38)) := by go_grown
  have htb := two_boxes (w := w) (most := (most : Int)) (v := .slice p n c)
  have hs2 : ((w.alloc (.cells #[.int .i64 (most : Int), .slice p n c] 69)).alloc (.cells #[.int .i64 0, .slice none 0 0] 69)).heap.size = w.heap.size + 1 + 1 := by simp
  have X3 := Lib.hid (show (((w.alloc (.cells #[.int .i64 (most : Int), .slice p n c] 69)).alloc (.cells #[.int .i64 0, .slice none 0 0] 69)).alloc (.cells #[.int .u32 (x : Int)] 38)).heap[w.heap.size]? = some (.cells #[.int .i64 (most : Int), .slice p n c] 69 (0, 0)) ∧ (((w.alloc (.cells #[.int .i64 (most : Int), .slice p n c] 69)).alloc (.cells #[.int .i64 0, .slice none 0 0] 69)).alloc (.cells #[.int .u32 (x : Int)] 38)).heap[w.heap.size + 1]? = some (.cells #[.int .i64 0, .slice none 0 0] 69 (0, 0)) ∧ Below w.heap.size w (((w.alloc (.cells #[.int .i64 (most : Int), .slice p n c] 69)).alloc (.cells #[.int .i64 0, .slice none 0 0] 69)).alloc (.cells #[.int .u32 (x : Int)] 38)) from ⟨(hb23.block _ (by omega)).trans htb.1, (hb23.block _ (by omega)).trans htb.2, b3⟩)
  have one := App.one_own ((w.alloc (.cells #[.int .i64 (most : Int), .slice p n c] 69)).alloc (.cells #[.int .i64 0, .slice none 0 0] 69)) (.int .u32 (x : Int)) 38
  rw [hs2] at one
  have hs3 : (((w.alloc (.cells #[.int .i64 (most : Int), .slice p n c] 69)).alloc (.cells #[.int .i64 0, .slice none 0 0] 69)).alloc (.cells #[.int .u32 (x : Int)] 38)).heap.size = w.heap.size + 1 + 1 + 1 := by simp
  clear hb23 b3 htb hs2
  generalize (((w.alloc (.cells #[.int .i64 (most : Int), .slice p n c] 69)).alloc (.cells #[.int .i64 0, .slice none 0 0] 69)).alloc (.cells #[.int .u32 (x : Int)] 38)) = w3 at *
  refine (HW.out _ X3.out.2.2).mono ?_
  rintro e w4 ⟨u, rfl, hrow, b4⟩
  have hs4 := b4.size
  have ONE := Lib.hid (row_kp one fun g hg => b4.block g (by have := (one.lt g hg).2; omega))
  obtain ⟨q1, k1, rfl, rg1, len1⟩ := App.own_rg hrow
  have RG1 := Lib.hid rg1
  have LEN1 := Lib.hid len1
  have X4 := Lib.hid (show w4.heap[w.heap.size]? = some (.cells #[.int .i64 (most : Int), .slice p n c] 69 (0, 0)) ∧ w4.heap[w.heap.size + 1]? = some (.cells #[.int .i64 0, .slice none 0 0] 69 (0, 0)) ∧ Below w.heap.size w w4 ∧ w.heap.size + 1 + 1 ≤ w4.heap.size from ⟨(b4.block _ (by omega)).trans X3.out.1, (b4.block _ (by omega)).trans X3.out.2.1, X3.out.2.2.trans (b4.mono (by omega)), by omega⟩)
  clear one rg1 len1 hrow b4 hs4 hs3 X3
  obtain ⟨L, hL⟩ : ∃ L, 1 + m = L := ⟨_, rfl⟩
  have hLm : ¬ (L : Int) ≤ (most : Int) := by have := HM.out; omega
  have HLL := Lib.hid hL
  clear hL
  go_upto_region 2 with (first
    | (at_builtin; refine App.wpList_appG rfl (.tmp 9) (.tmp 13) 39 rfl (w.heap.size + 1 + 1) 38 i0 (.int .u32 0) 4 Try.underlying39 hi0 hz0 hz1 hz2 rfl _ 1 [.int .u32 (x : Int)] rfl ONE.out q1 m k1 _ rfl LEN1.out RG1.out (u32_cell1 _) (by have := HM.out; omega) (by omega) X4.out.2.2.2 ?_; intro v5 w5 o5 b5 s5; rw [HLL.out] at o5; obtain ⟨q, kc, rfl, -, -⟩ := App.own_form o5; have X5 := Lib.hid (show w5.heap[w.heap.size]? = some (.cells #[.int .i64 (most : Int), .slice p n c] 69 (0, 0)) ∧ w5.heap[w.heap.size + 1]? = some (.cells #[.int .i64 0, .slice none 0 0] 69 (0, 0)) ∧ Below w.heap.size w w5 from ⟨(b5.block _ (by omega)).trans X4.out.1, (b5.block _ (by omega)).trans X4.out.2.1, X4.out.2.2.1.trans (b5.mono (by omega))⟩); have HROW := Lib.hid o5; (obtain ⟨f0, f1, f2, f3⟩ : w5.cell? ⟨w.heap.size, 0, none⟩ = some (.int .i64 (most : Int)) ∧ w5.cell? ⟨w.heap.size, 1, none⟩ = some (.slice p n c) ∧ w5.cell? ⟨w.heap.size + 1, 0, none⟩ = some (.int .i64 0) ∧ w5.cell? ⟨w.heap.size + 1, 1, none⟩ = some (.slice none 0 0) := by have h1 := X5.out.1; have h2 := X5.out.2.1; refine ⟨?_, ?_, ?_, ?_⟩ <;> simp [World.cell?, h1, h2]); (obtain ⟨g0, g1⟩ : (∀ j, w5.frozen? ⟨w.heap.size, j, none⟩ = false) ∧ (∀ j, w5.frozen? ⟨w.heap.size + 1, j, none⟩ = false) := by have h1 := X5.out.1; have h2 := X5.out.2.1; refine ⟨fun j => ?_, fun j => ?_⟩ <;> simp [World.frozen?, h1, h2]); clear o5 b5 s5)
    | fail)
  have hb6 := X5.out.2.2.setCell (p := ⟨w.heap.size, 1, none⟩) (Nat.le_refl _) (.slice q L kc)
  have hx6 := heap_set (j := 1) X5.out.1 (.slice q L kc)
  have hx7 := (Below.heap_setCell w5 ⟨w.heap.size, 1, none⟩ (.slice q L kc) (w.heap.size + 1) (by show w.heap.size + 1 ≠ w.heap.size; omega)).trans X5.out.2.1
  have row6 : (w5.setCell ⟨w.heap.size, 1, none⟩ (.slice q L kc)).ownsRow (w.heap.size + 1 + 1) 38 1 (.slice q L kc) L ((ints (x :: wout l x)).map (Value.int .u32)) :=
    row_kp HROW.out fun g hg => Below.heap_setCell _ ⟨w.heap.size, 1, none⟩ _ g (by have h1 := (HROW.out.lt g hg).1; show g ≠ w.heap.size; omega)
  have hs6 : w.heap.size + 1 + 1 ≤ (w5.setCell ⟨w.heap.size, 1, none⟩ (.slice q L kc)).heap.size := by
    have := (Array.getElem?_eq_some_iff.1 hx7).1
    omega
  generalize w5.setCell ⟨w.heap.size, 1, none⟩ (.slice q L kc) = w6 at *
  clear f0 f1 f2 f3 g0 g1
  have hll : (x :: wout l x).length = L := by rw [List.length_cons, HM.out.1]; have := HLL.out; omega
  obtain ⟨p6, c6, hv6, ru6, -⟩ := row_ruH row6 (by rw [ints_len]; exact hll)
  cases hv6
  obtain ⟨y, rfl, -, -⟩ := ru6 0 (x : Int) rfl
  obtain ⟨z, hz⟩ : ∃ z : Int, (((x :: wout l x).getLastD 0 : Nat) : Int) = z := ⟨_, rfl⟩
  have hlast : (ints (x :: wout l x))[m]? = some z := by
    rw [← hz, gints_at (s := (x :: wout l x).getLastD 0)]
    have hm1 : m = (x :: wout l x).length - 1 := by rw [List.length_cons, HM.out.1]; omega
    rw [hm1, ← List.getLast?_eq_getElem?, List.getLastD_eq_getLast?]
    cases h : (x :: wout l x).getLast? with
    | none => simp at h
    | some u => rfl
  obtain ⟨y', hy', -, e0⟩ := ru6 m z hlast
  cases hy'
  have RT := Lib.hid (ru_app (show Ru w6 (some y) (ints (x :: wout l x).dropLast) by
    have h := ru6.take m
    have e : (ints (x :: wout l x)).take m = ints (x :: wout l x).dropLast := by unfold ints; rw [← List.map_take, List.dropLast_eq_take, List.length_cons, HM.out.1]; rfl
    rwa [e] at h))
  have HLT := Lib.hid (show ((ints (x :: wout l x).dropLast).map (Value.int .u32)).length = m by rw [List.length_map, ints_len, List.length_dropLast, List.length_cons, HM.out.1]; rfl)
  have HZ := Lib.hid hz
  have hcap := App.own_form row6
  obtain ⟨_, _, hcv, hc1, hc2⟩ := hcap
  cases hcv
  have hLM : L = m + 1 := by have := HLL.out; omega
  have wsub : IntKind.i64.wrap ((L : Int) - 1) = (m : Int) := by rw [IntWalk.i64_in _ (by have := HM.out.2.1; omega)]; omega
  have i1 : (m : Int) < (L : Int) := by omega
  have i2 : (m : Int) ≤ (L : Int) := by omega
  have i5 : (0 : Int) ≤ (m : Int) := by omega
  have X6 := Lib.hid (show w6.heap[w.heap.size]? = some (.cells #[.int .i64 (most : Int), .slice (some y) L kc] 69 (0, 0)) ∧ w6.heap[w.heap.size + 1]? = some (.cells #[.int .i64 0, .slice none 0 0] 69 (0, 0)) ∧ Below w.heap.size w w6 ∧ w.heap.size + 1 + 1 ≤ w6.heap.size from ⟨hx6, hx7, hb6, hs6⟩)
  obtain ⟨f0, f1, f2, f3⟩ : w6.cell? ⟨w.heap.size, 0, none⟩ = some (.int .i64 (most : Int)) ∧ w6.cell? ⟨w.heap.size, 1, none⟩ = some (.slice (some y) L kc) ∧ w6.cell? ⟨w.heap.size + 1, 0, none⟩ = some (.int .i64 0) ∧ w6.cell? ⟨w.heap.size + 1, 1, none⟩ = some (.slice none 0 0) := by have h1 := X6.out.1; have h2 := X6.out.2.1; refine ⟨?_, ?_, ?_, ?_⟩ <;> simp [World.cell?, h1, h2]
  clear hb6 hx6 hx7 row6 hs6 hll hlast ru6 hz hLM HROW X5
  go_wp2_with (first
    | (at_builtin; refine App.wpList_appG rfl (.const (.slice none 0 0)) (.tmp 37) 39 rfl (w.heap.size + 1 + 1) 38 i0 (.int .u32 0) 4 Try.underlying39 hi0 hz0 hz1 hz2 rfl _ 0 [] rfl (World.ownsRow_nil _ _ _ _) (some y) m kc _ rfl HLT.out RT.out (u32_cell1 _) (by have := HM.out; omega) (by omega) X6.out.2.2.2 ?_; intro v7 w7 o7 b7 s7; rw [Nat.zero_add, List.nil_append] at o7; obtain ⟨q7, k7, rfl, -, -⟩ := App.own_form o7; have X7 := Lib.hid (show w7.heap[w.heap.size]? = some (.cells #[.int .i64 (most : Int), .slice (some y) L kc] 69 (0, 0)) ∧ w7.heap[w.heap.size + 1]? = some (.cells #[.int .i64 0, .slice none 0 0] 69 (0, 0)) ∧ Below w.heap.size w w7 from ⟨(b7.block _ (by omega)).trans X6.out.1, (b7.block _ (by omega)).trans X6.out.2.1, X6.out.2.2.1.trans (b7.mono (by omega))⟩); have HROW := Lib.hid o7; (obtain ⟨f0, f1, f2, f3⟩ : w7.cell? ⟨w.heap.size, 0, none⟩ = some (.int .i64 (most : Int)) ∧ w7.cell? ⟨w.heap.size, 1, none⟩ = some (.slice (some y) L kc) ∧ w7.cell? ⟨w.heap.size + 1, 0, none⟩ = some (.int .i64 0) ∧ w7.cell? ⟨w.heap.size + 1, 1, none⟩ = some (.slice none 0 0) := by have h1 := X7.out.1; have h2 := X7.out.2.1; refine ⟨?_, ?_, ?_, ?_⟩ <;> simp [World.cell?, h1, h2]); (obtain ⟨g0, g1⟩ : (∀ j, w7.frozen? ⟨w.heap.size, j, none⟩ = false) ∧ (∀ j, w7.frozen? ⟨w.heap.size + 1, j, none⟩ = false) := by have h1 := X7.out.1; have h2 := X7.out.2.1; refine ⟨fun j => ?_, fun j => ?_⟩ <;> simp [World.frozen?, h1, h2]); clear o7 b7 s7)
    | fail)
  have hbl := ((X7.out.2.2.setCell (p := ⟨w.heap.size, 1, none⟩) (Nat.le_refl _) (.slice q7 m k7)).setCell (p := ⟨w.heap.size + 1, 0, none⟩) (by show w.heap.size ≤ w.heap.size + 1; omega) (.int .i64 (most : Int))).setCell (p := ⟨w.heap.size + 1, 1, none⟩) (by show w.heap.size ≤ w.heap.size + 1; omega) (.slice q7 m k7)
  have hfin := heap_set (j := 1) (heap_set (j := 0) ((Below.heap_setCell w7 ⟨w.heap.size, 1, none⟩ (.slice q7 m k7) (w.heap.size + 1) (by show w.heap.size + 1 ≠ w.heap.size; omega)).trans X7.out.2.1) (.int .i64 (most : Int))) (.slice q7 m k7)
  have hrw : (((w7.setCell ⟨w.heap.size, 1, none⟩ (.slice q7 m k7)).setCell ⟨w.heap.size + 1, 0, none⟩ (.int .i64 (most : Int))).setCell ⟨w.heap.size + 1, 1, none⟩ (.slice q7 m k7)).ownsRow w.heap.size 38 1 (.slice q7 m k7) m ((ints (x :: wout l x).dropLast).map (Value.int .u32)) := by
    refine App.own_lift (row_kp HROW.out fun g hg => ?_) (by omega)
    have h1 := (HROW.out.lt g hg).1
    have n1 : g ≠ w.heap.size + 1 := by omega
    have n2 : g ≠ w.heap.size := by omega
    rw [Below.heap_setCell _ ⟨w.heap.size + 1, 1, none⟩ _ g n1, Below.heap_setCell _ ⟨w.heap.size + 1, 0, none⟩ _ g n1, Below.heap_setCell _ ⟨w.heap.size, 1, none⟩ _ g n2]
  generalize ((w7.setCell ⟨w.heap.size, 1, none⟩ (.slice q7 m k7)).setCell ⟨w.heap.size + 1, 0, none⟩ (.int .i64 (most : Int))).setCell ⟨w.heap.size + 1, 1, none⟩ (.slice q7 m k7) = w8 at *
  obtain ⟨z0, z1⟩ : w8.cell? ⟨w.heap.size + 1, 0, none⟩ = some (.int .i64 (most : Int)) ∧ w8.cell? ⟨w.heap.size + 1, 1, none⟩ = some (.slice q7 m k7) := by constructor <;> simp [World.cell?, hfin]
  exact bodyPost_ret (v := .tuple #[rg (most : Int) q7 m k7, .int .u32 z, .bool true]) (by simp [results, Try.results109, go_sem, z0, z1]) rfl ⟨q7, k7, by rw [HZ.out], hrw, hbl⟩
set_option maxRecDepth 100000 in
theorem radd_any {w : World} {p : Option Addr} {n c most : Nat} {l : List Nat} (hl : l.length = n) (hn : n ≤ 100000) (r : Ru w p (ints l)) (x : Nat) :
    Calls Try.prog 109 #[rg (most : Int) p n c, .int .u32 (x : Int)] w fun e w' => ∃ q k, e = .returned (.tuple #[rg (most : Int) q (addR (most : Int) l x).1.length k, .int .u32 ((addR (most : Int) l x).2.1 : Int), .bool (addR (most : Int) l x).2.2]) ∧ w'.ownsRow w.heap.size 38 1 (.slice q (addR (most : Int) l x).1.length k) (addR (most : Int) l x).1.length ((ints (addR (most : Int) l x).1).map (Value.int .u32)) ∧ Below w.heap.size w w' := by
  by_cases hm : (wout l x).length + 1 ≤ most
  · have e : addR (most : Int) l x = (x :: wout l x, 0, false) := by unfold addR; rw [if_pos (by omega)]
    rw [e]
    exact radd_low hl hn r x hm
  · have e : addR (most : Int) l x = ((x :: wout l x).dropLast, (x :: wout l x).getLastD 0, true) := by unfold addR; rw [if_neg (by omega)]
    rw [e]
    have h := radd_high (most := most) (c := c) hl hn r x hm
    have e2 : ((x :: wout l x).dropLast).length = (wout l x).length := by rw [List.length_dropLast, List.length_cons]; rfl
    simp only [e2]
    exact h
end Go.Proofs.Ytggimkfepcgaoaa.Gho
end
section
namespace Go.Proofs.Ytggimkfepcgaoaa.Arc
open Go Go.RowKit Kit Go.Maps Lnk Gho
/-- what the reference makes of a key that is nowhere, but for the key -/
def missR (s : Nat) (t : Int) (L : Nat → List Nat) : (Nat → List Nat) × Bool × Nat :=
  if (L 0).length + (L 2).length = s then
    if (L 0).length < s then roomR s t false (upd L 2 (L 2).dropLast)
    else (upd L 0 (L 0).dropLast, true, (L 0).getLastD 0)
  else if (L 0).length + (L 1).length + (L 2).length + (L 3).length < s then (L, false, 0)
  else if (L 0).length + (L 1).length + (L 2).length + (L 3).length = 2 * s then roomR s t false (upd L 3 (L 3).dropLast)
  else roomR s t false L
/-- what the reference's Use makes -/
def useR (s : Nat) (t : Int) (L : Nat → List Nat) (k : Nat) : Int × (Nat → List Nat) × Bool × Bool × Nat :=
  if k ∈ L 0 ∨ k ∈ L 1 then (t, upd (upd L 0 (wout (L 0) k)) 1 (k :: wout (L 1) k), true, false, 0)
  else if k ∈ L 2 then (tgt2 s t L, upd (upd (roomR s (tgt2 s t L) false L).1 2 (wout ((roomR s (tgt2 s t L) false L).1 2) k)) 1 (k :: (roomR s (tgt2 s t L) false L).1 1), false, (roomR s (tgt2 s t L) false L).2)
  else if k ∈ L 3 then (tgt3 t L, upd (upd (roomR s (tgt3 t L) true L).1 3 (wout ((roomR s (tgt3 t L) true L).1 3) k)) 1 (k :: (roomR s (tgt3 t L) true L).1 1), false, (roomR s (tgt3 t L) true L).2)
  else (t, upd (missR s t L).1 0 (k :: (missR s t L).1 0), false, (missR s t L).2)
theorem addG_new {l : List Nat} {k : Nat} (h : k ∉ l) (hl : l.length < 4096) : (addG 4096 l k).1 = k :: l := by
  unfold addG
  rw [if_neg h, if_pos (by omega)]
theorem upd_upd {L : Nat → List Nat} {i : Nat} {a b : List Nat} : upd (upd L i a) i b = upd L i b := by
  funext j; unfold upd; split <;> rfl
theorem upd_id {L : Nat → List Nat} {i : Nat} : upd L i (L i) = L := by
  funext j; unfold upd; split
  · next h => rw [h]
  · rfl
theorem last_mem {l : List Nat} (h : 0 < l.length) : l.getLastD 0 ∈ l := by
  have := List.mem_append_right l.dropLast (List.mem_singleton_self (l.getLastD 0))
  rwa [← last_of h] at this
theorem roomR_eq {s : Nat} {t : Int} {found : Bool} {L : Nat → List Nat} (nd : Nd L) (s1 : 1 ≤ s) (t1 : t ≤ s) (hl : ∀ j, j < 4 → (L j).length ≤ 2048) (h : (L 0).length < s ∨ found = true) : roomR s t found L = roomA s t found L := by
  unfold roomR roomA
  by_cases hf : (L 0).length + (L 1).length < s
  · rw [if_pos hf, if_pos hf]
  · rw [if_neg hf, if_neg hf]
    have hF2 := fromA_lt L t found
    have hne := fromA_ne (found := found) (by omega) s1 t1 h
    generalize fromA L t found = F at *
    rw [addG_new (not_in nd (by omega) (by omega) (last_mem hne) (by omega)) (by have := hl (F + 2) (by omega); omega)]
theorem roomA_zero (s : Nat) (t : Int) (found : Bool) (L : Nat → List Nat) : (∀ y ∈ (roomA s t found L).1 0, y ∈ L 0) ∧ ((roomA s t found L).1 0).length ≤ (L 0).length := by
  unfold roomA
  split
  · exact ⟨fun y h => h, Nat.le_refl _⟩
  · have := fromA_lt L t found
    generalize fromA L t found = F at *
    dsimp only
    rw [upd_other (show 0 ≠ F + 2 by omega)]
    by_cases hF : 0 = F
    · subst hF
      rw [upd_same]
      exact ⟨fun y hy => List.dropLast_subset _ hy, by simp⟩
    · rw [upd_other hF]
      exact ⟨fun y h => h, Nat.le_refl _⟩
theorem missA_zero (s : Nat) (t : Int) (L : Nat → List Nat) : (∀ y ∈ (missA s t L).1 0, y ∈ L 0) ∧ ((missA s t L).1 0).length ≤ (L 0).length := by
  unfold missA
  split
  · dsimp only
    rw [upd_same]
    exact ⟨fun y hy => List.dropLast_subset _ hy, by simp⟩
  split
  · have := roomA_zero s t false (upd L 2 (L 2).dropLast)
    rwa [upd_other (show 0 ≠ 2 by omega)] at this
  split
  · have := roomA_zero s t false (upd L 3 (L 3).dropLast)
    rwa [upd_other (show 0 ≠ 3 by omega)] at this
  split
  · exact ⟨fun y h => h, Nat.le_refl _⟩
  · exact roomA_zero s t false L
theorem ghost_eq {s : Nat} {t' : Int} {found : Bool} {L : Nat → List Nat} {i k : Nat} (nd : Nd L) (s1 : 1 ≤ s) (s2 : s ≤ 1024) (t1 : t' ≤ s) (hl : ∀ j, j < 4 → (L j).length ≤ 2048) (h : (L 0).length < s ∨ found = true) (hi : i = 2 ∨ i = 3) (hk : k ∈ L i) :
    upd (upd (roomA s t' found L).1 i (wout ((roomA s t' found L).1 i) k)) 1 (k :: (roomA s t' found L).1 1) = moveA (roomA s t' found L).1 i k := by
  have hk1 : k ∉ L 1 := not_in nd (by omega) (by omega) hk (by omega)
  have key : (roomA s t' found L).1 1 = (roomA s t' found L).1 1 ∧ k ∉ (roomA s t' found L).1 1 ∧ ((roomA s t' found L).1 1).length < 4096 ∧ ((roomA s t' found L).1 i).Nodup := by
    rcases room_st (found := found) nd s1 s2 t1 hl h with ⟨_, e⟩ | ⟨_, F, x, L', hF, hx, e, _, _, st⟩
    · rw [e]
      exact ⟨rfl, hk1, by have := hl 1 (by omega); show (L 1).length < 4096; omega, nd.one i (by omega)⟩
    · rw [e]
      refine ⟨rfl, fun hm => ?_, ?_, st.nd.one i (by omega)⟩
      · rcases (st.mem 1 k (by omega)).1 hm with h1 | h1
        · exact hk1 h1.1
        · omega
      · have h1 := st.len 1 (by omega)
        have h2 := hl 1 (by omega)
        show (L' 1).length < 4096
        split at h1 <;> split at h1 <;> omega
  obtain ⟨-, h1, h2, h3⟩ := key
  unfold moveA
  rw [wout_erase h3, upd_other (show 1 ≠ i by omega), addG_new h1 h2]
theorem missR_eq {s : Nat} {t : Int} {L : Nat → List Nat} (ai : Ai s t L) : missR s t L = missA s t L := by
  have nd := ai.nd
  obtain ⟨_, ha, hb, hc, t0, t1, s1, s2⟩ := ai
  have hl : ∀ j, j < 4 → (L j).length ≤ 2048 := fun j hj => by match j, hj with | 0, _ => omega | 1, _ => omega | 2, _ => omega | 3, _ => omega
  have hd : ∀ i, i < 4 → 0 < (L i).length → Nd (upd L i (L i).dropLast) := fun i hi hp => (st_last nd hi (last_of hp)).nd
  have hdl : ∀ i j, j < 4 → (upd L i (L i).dropLast j).length ≤ 2048 := fun i j hj => by
    by_cases e : j = i
    · subst e; rw [upd_same, List.length_dropLast]; have := hl j hj; omega
    · rw [upd_other e]; exact hl j hj
  unfold missR missA
  by_cases c0 : (L 0).length = s
  · rw [if_pos c0, if_pos (by omega), if_neg (by omega)]
  rw [if_neg c0]
  by_cases c1 : (L 0).length + (L 2).length = s
  · rw [if_pos c1, if_pos c1, if_pos (by omega)]
    exact roomR_eq (hd 2 (by omega) (by omega)) s1 t1 (hdl 2) (.inl (by rw [upd_other (show 0 ≠ 2 by omega)]; omega))
  rw [if_neg c1, if_neg c1]
  by_cases c2 : (L 0).length + (L 1).length + (L 2).length + (L 3).length = 2 * s
  · rw [if_neg (by omega), if_pos c2, if_pos c2]
    exact roomR_eq (hd 3 (by omega) (by omega)) s1 t1 (hdl 3) (.inl (by rw [upd_other (show 0 ≠ 3 by omega)]; omega))
  rw [if_neg c2, if_neg c2]
  by_cases c3 : (L 0).length + (L 1).length + (L 2).length + (L 3).length < s
  · rw [if_pos c3, if_pos c3]
  · rw [if_neg c3, if_neg c3]
    exact roomR_eq nd s1 t1 hl (.inl (by omega))
theorem useR_eq {s : Nat} {t : Int} {L : Nat → List Nat} (ai : Ai s t L) (k : Nat) : useR s t L k = useA s t L k := by
  have nd := ai.nd
  have hai := ai
  obtain ⟨_, ha, hb, hc, t0, t1, s1, s2⟩ := ai
  have hl : ∀ j, j < 4 → (L j).length ≤ 2048 := fun j hj => by match j, hj with | 0, _ => omega | 1, _ => omega | 2, _ => omega | 3, _ => omega
  unfold useR useA
  by_cases k0 : k ∈ L 0
  · have k1 : k ∉ L 1 := not_in nd (by omega) (by omega) k0 (by omega)
    rw [if_pos (.inl k0), if_pos k0]
    unfold moveA
    rw [upd_other (show 1 ≠ 0 by omega), addG_new k1 (by have := hl 1 (by omega); omega), wout_erase (nd.one 0 (by omega)), wout_erase (nd.one 1 (by omega)), List.erase_of_not_mem k1]
  rw [if_neg k0]
  by_cases k1 : k ∈ L 1
  · rw [if_pos (.inr k1), if_pos k1]
    unfold moveA
    have hn : k ∉ (L 1).erase k := fun h => ((nd.one 1 (by omega)).mem_erase_iff.1 h).1 rfl
    rw [upd_same, addG_new hn (by have := hl 1 (by omega); have := List.length_erase_le (a := k) (l := L 1); omega), wout_erase (nd.one 0 (by omega)), wout_erase (nd.one 1 (by omega)), List.erase_of_not_mem k0, upd_id, upd_upd]
  rw [if_neg (by rintro (h | h); exact k0 h; exact k1 h), if_neg k1]
  by_cases k2 : k ∈ L 2
  · have hp := List.length_pos_of_mem k2
    rw [if_pos k2, if_pos k2, roomR_eq nd s1 (tgt2_le t0).2 hl (.inl (by omega)), ghost_eq nd s1 s2 (tgt2_le t0).2 hl (.inl (by omega)) (.inl rfl) k2]
  rw [if_neg k2, if_neg k2]
  by_cases k3 : k ∈ L 3
  · rw [if_pos k3, if_pos k3, roomR_eq nd s1 (tgt3_le t1).2 hl (.inr rfl), ghost_eq nd s1 s2 (tgt3_le t1).2 hl (.inr rfl) (.inr rfl) k3]
  rw [if_neg k3, if_neg k3, missR_eq hai]
  have hz := missA_zero s t L
  rw [addG_new (fun h => k0 (hz.1 _ h)) (by have := hl 0 (by omega); omega)]
end Go.Proofs.Ytggimkfepcgaoaa.Arc
end
