/-
  Second chance (layer 31): what a request does to the set of keys; keys that never come again.
-/
import Derived.Test.YteppcjolgpdenaaSeqR
set_option linter.unusedVariables false
set_option linter.unusedSimpArgs false
namespace Go.Proofs.Yteppcjolgpdenaa.Seq
/-- key k is there -/
def mem (l : List Pl) (k : Int) : Bool := (find l k).isSome
theorem find_of_at {l : List Pl} {k : Int} {i : Nat} (h : At l k i) : mem l k = true := by
  unfold mem
  cases hf : find l k with
  | none => exact absurd h (find_none hf i)
  | some j => rfl
theorem mem_iff {l : List Pl} {k : Int} : mem l k = true ↔ ∃ i, At l k i := by
  constructor
  · intro h
    unfold mem at h
    cases hf : find l k with
    | none => rw [hf] at h; cases h
    | some j => exact ⟨j, find_at hf⟩
  · rintro ⟨i, h⟩; exact find_of_at h
theorem mem_none {l : List Pl} {k : Int} (h : find l k = none) : mem l k = false := by unfold mem; rw [h]; rfl
theorem mem_congr {l l' : List Pl} {k k' : Int} (h : (∃ i, At l k i) ↔ ∃ i, At l' k' i) : mem l k = mem l' k' := by
  have h1 := @mem_iff l k
  have h2 := @mem_iff l' k'
  cases ha : mem l k <;> cases hb : mem l' k' <;> simp_all
theorem at_set {l : List Pl} {i : Nat} (hi : i < l.length) (q : Pl) (k : Int) (j : Nat) : At (l.set i q) k j ↔ (j = i ∧ q.f = true ∧ q.k = k) ∨ (j ≠ i ∧ At l k j) := by
  unfold At
  rw [List.getElem?_set]
  by_cases hij : i = j
  · subst hij
    simp [hi]
  · simp [hij, Ne.symm hij]
def Uq (l : List Pl) : Prop := ∀ k i j, At l k i → At l k j → i = j
theorem uq_set {l : List Pl} (hu : Uq l) {i : Nat} {p : Pl} (hp : l[i]? = some p) (hf : p.f = true) (q : Pl) (j : Int) : mem (l.set i q) j = ((q.f && decide (j = q.k)) || (mem l j && !decide (j = p.k))) := by
  have hi := (List.getElem?_eq_some_iff.1 hp).1
  have hA : At l p.k i := ⟨p, hp, hf, rfl⟩
  have h1 := @mem_iff (l.set i q) j
  have h2 := @mem_iff l j
  by_cases hq : q.f = true ∧ j = q.k
  · have : mem (l.set i q) j = true := h1.2 ⟨i, (at_set hi q j i).2 (.inl ⟨rfl, hq.1, hq.2.symm⟩)⟩
    rw [this]; simp [hq.1, hq.2]
  · have hq' : (q.f && decide (j = q.k)) = false := by
      cases hqf : q.f
      · rfl
      · simp; exact fun h => hq ⟨hqf, h⟩
    rw [hq', Bool.false_or]
    by_cases hj : j = p.k
    · subst hj
      have : mem (l.set i q) p.k = false := by
        cases hm : mem (l.set i q) p.k with
        | false => rfl
        | true =>
          obtain ⟨m, hm'⟩ := h1.1 hm
          rcases (at_set hi q _ m).1 hm' with ⟨-, a1, a2⟩ | ⟨a1, a2⟩
          · exact absurd ⟨a1, a2.symm⟩ hq
          · exact absurd (hu _ _ _ a2 hA) a1
      rw [this]; simp
    · have e : mem (l.set i q) j = mem l j := mem_congr (by
        constructor
        · rintro ⟨m, hm⟩
          rcases (at_set hi q _ m).1 hm with ⟨-, a1, a2⟩ | ⟨a1, a2⟩
          · exact absurd ⟨a1, a2.symm⟩ hq
          · exact ⟨m, a2⟩
        · rintro ⟨m, hm⟩
          refine ⟨m, (at_set hi q _ m).2 (.inr ⟨?_, hm⟩)⟩
          rintro rfl
          obtain ⟨p', h3, h4, h5⟩ := hm
          rw [hp] at h3; cases h3
          exact hj h5.symm)
      rw [e]; simp [hj]
theorem hole_set {l : List Pl} {i : Nat} {p : Pl} (hp : l[i]? = some p) (hf : p.f = false) (q : Pl) (j : Int) : mem (l.set i q) j = ((q.f && decide (j = q.k)) || mem l j) := by
  have hi := (List.getElem?_eq_some_iff.1 hp).1
  have h1 := @mem_iff (l.set i q) j
  by_cases hq : q.f = true ∧ j = q.k
  · have : mem (l.set i q) j = true := h1.2 ⟨i, (at_set hi q j i).2 (.inl ⟨rfl, hq.1, hq.2.symm⟩)⟩
    rw [this]; simp [hq.1, hq.2]
  · have hq' : (q.f && decide (j = q.k)) = false := by
      cases hqf : q.f
      · rfl
      · simp; exact fun h => hq ⟨hqf, h⟩
    rw [hq', Bool.false_or]
    refine mem_congr ⟨?_, ?_⟩
    · rintro ⟨m, hm⟩
      rcases (at_set hi q _ m).1 hm with ⟨-, a1, a2⟩ | ⟨a1, a2⟩
      · exact absurd ⟨a1, a2.symm⟩ hq
      · exact ⟨m, a2⟩
    · rintro ⟨m, hm⟩
      refine ⟨m, (at_set hi q _ m).2 (.inr ⟨?_, hm⟩)⟩
      rintro rfl
      obtain ⟨p', h3, h4, h5⟩ := hm
      rw [hp] at h3; cases h3
      rw [hf] at h4; cases h4
theorem full_set {l : List Pl} {i : Nat} {p : Pl} (hp : l[i]? = some p) (q : Pl) : full (l.set i q) + (if p.f then 1 else 0) = full l + (if q.f then 1 else 0) := count_set (·.f) l i p q hp
theorem all_full {l : List Pl} (h : full l = l.length) {i : Nat} {p : Pl} (hp : l[i]? = some p) : p.f = true := List.countP_eq_length.1 h p (List.mem_of_getElem? hp)
/-- the sweep of a hand: what was passed -/
structure Swept (l0 : List Pl) (h0 s : Nat) (l : List Pl) (h : Nat) : Prop where
  len : l.length = l0.length
  le : s ≤ l0.length
  hand : h = (h0 + s) % l0.length
  was : ∀ t, t < s → ∃ p, l0[(h0 + t) % l0.length]? = some p ∧ p.m = true
  is : ∀ t, t < s → ∃ p, l[(h0 + t) % l0.length]? = some p ∧ p.m = false
  stay : ∀ t, s ≤ t → t < l0.length → l[(h0 + t) % l0.length]? = l0[(h0 + t) % l0.length]?
theorem mod_ne {n a s t : Nat} (h1 : t < s) (h2 : s < t + n) : (a + t) % n ≠ (a + s) % n := by
  intro h
  have h3 := Nat.sub_mod_eq_zero_of_mod_eq h.symm
  rw [show a + s - (a + t) = s - t from by omega, Nat.mod_eq_of_lt (by omega)] at h3
  omega
theorem marks_none {l : List Pl} (h : marks l = 0) {i : Nat} {p : Pl} (hp : l[i]? = some p) : p.m = false := by
  have := List.countP_eq_zero.1 h p (List.mem_of_getElem? hp)
  simpa using this
theorem sweep_inv {l0 : List Pl} {h0 : Nat} : ∀ (n : Nat) (l : List Pl) (h s : Nat), 1 ≤ l0.length → Swept l0 h0 s l h → marks l ≤ n → ∃ s', Swept l0 h0 s' (sweep n l h).1 (sweep n l h).2 ∧ ∃ p, (sweep n l h).1[(sweep n l h).2]? = some p ∧ p.m = false
  | 0, l, h, s, h1, hs, hm => by
    have hlt : h < l.length := by rw [hs.len, hs.hand]; exact Nat.mod_lt _ (by omega)
    exact ⟨s, hs, l[h], List.getElem?_eq_getElem hlt, marks_none (by omega) (List.getElem?_eq_getElem hlt)⟩
  | n + 1, l, h, s, h1, hs, hm => by
    have hlt : h < l.length := by rw [hs.len, hs.hand]; exact Nat.mod_lt _ (by omega)
    have hp := List.getElem?_eq_getElem hlt
    unfold sweep
    rw [hp]
    simp only
    split
    · next hmk =>
      have hsl : s < l0.length := by
        rcases Nat.lt_or_ge s l0.length with h2 | h2
        · exact h2
        · have h3 : s = l0.length := Nat.le_antisymm hs.le h2
          obtain ⟨p, q1, q2⟩ := hs.is 0 (by omega)
          have he : h = (h0 + 0) % l0.length := by rw [hs.hand, h3]; simp
          rw [← he, hp] at q1
          cases q1
          rw [hmk] at q2; cases q2
      have e0 := hs.stay s (Nat.le_refl _) hsl
      rw [← hs.hand, hp] at e0
      have hmm := marks_set hp hmk
      refine sweep_inv n _ _ (s + 1) h1 ⟨by rw [List.length_set]; exact hs.len, hsl, by rw [hs.len, hs.hand, Nat.mod_add_mod, Nat.add_assoc], fun t ht => ?_, fun t ht => ?_, fun t ht htl => ?_⟩ (by omega)
      · rcases Nat.lt_or_ge t s with h2 | h2
        · exact hs.was t h2
        · obtain rfl : t = s := by omega
          rw [← hs.hand]
          exact ⟨_, e0.symm, hmk⟩
      · rcases Nat.lt_or_ge t s with h2 | h2
        · have hne := mod_ne (n := l0.length) (a := h0) h2 (by omega)
          obtain ⟨p, q1, q2⟩ := hs.is t h2
          rw [← hs.hand] at hne
          exact ⟨p, by rw [List.getElem?_set, if_neg (Ne.symm hne)]; exact q1, q2⟩
        · obtain rfl : t = s := by omega
          rw [← hs.hand]
          exact ⟨_, by rw [List.getElem?_set, if_pos rfl, if_pos hlt], rfl⟩
      · have hne := mod_ne (n := l0.length) (a := h0) (show s < t by omega) (by omega)
        rw [← hs.hand] at hne
        rw [List.getElem?_set, if_neg hne]
        exact hs.stay t (by omega) htl
    · next hmk => exact ⟨s, hs, _, hp, by simpa using hmk⟩
theorem sweep_marked {l : List Pl} {h : Nat} (hh : h < l.length) {p : Pl} (hp : l[(sweep (marks l) l h).2]? = some p) (hm : p.m = true) : marks l = l.length := by
  obtain ⟨s, hs, p', q1, q2⟩ := sweep_inv (l0 := l) (h0 := h) (marks l) l h 0 (by omega) ⟨rfl, by omega, by rw [Nat.add_zero, Nat.mod_eq_of_lt hh], fun t ht => by omega, fun t ht => by omega, fun t _ _ => rfl⟩ (Nat.le_refl _)
  have hsl : s = l.length := by
    rcases Nat.lt_or_ge s l.length with h2 | h2
    · have e0 := hs.stay s (Nat.le_refl _) h2
      rw [← hs.hand, q1, hp] at e0
      cases e0
      rw [hm] at q2; cases q2
    · exact Nat.le_antisymm hs.le h2
  refine List.countP_eq_length.2 fun x hx => ?_
  obtain ⟨i, hi, rfl⟩ := List.getElem_of_mem hx
  obtain ⟨y, w1, w2⟩ := hs.was ((i + l.length - h) % l.length) (by rw [hsl]; exact Nat.mod_lt _ (by omega))
  have : (h + (i + l.length - h) % l.length) % l.length = i := by
    rw [Nat.add_mod_mod, show h + (i + l.length - h) = i + l.length from by omega, Nat.add_mod_right, Nat.mod_eq_of_lt hi]
  rw [this, List.getElem?_eq_getElem hi] at w1
  cases w1
  exact w2
/-- what a request does -/
structure UseFacts (l : List Pl) (h : Nat) (k : Int) (l' : List Pl) (h' : Nat) (hit left : Bool) (out : Int) : Prop where
  hit_ : hit = mem l k
  mem_ : ∀ j, mem l' j = (decide (j = k) || (mem l j && !(left && decide (j = out))))
  full_ : full l' = full l + (if mem l k then 0 else if left then 0 else 1)
  left_ : left = true → mem l k = false ∧ mem l out = true ∧ full l = l.length
  out_ : left = false → out = 0
  mark_ : left = true → ∀ (i : Nat) (p : Pl), l[i]? = some p → p.k = out → p.m = true → marks l = l.length
  len_ : l'.length = l.length
  h_ : h' < l.length
theorem use_facts {l : List Pl} (hu : Uq l) {h : Nat} (hh : h < l.length) (k : Int) : UseFacts l h k (useL l h k).1 (useL l h k).2.1 (useL l h k).2.2.1 (useL l h k).2.2.2.1 (useL l h k).2.2.2.2 := by
  cases hf : find l k with
  | some i =>
    have hU : useL l h k = (l.set i ⟨k, true, true⟩, h, true, false, 0) := by unfold useL; rw [hf]
    obtain ⟨p, hp, pf, pk⟩ := find_at hf
    have hm : mem l k = true := find_of_at (find_at hf)
    rw [hU]
    refine ⟨hm.symm, fun j => ?_, ?_, fun h => (by cases h), fun _ => rfl, fun h => (by cases h), List.length_set, hh⟩
    · rw [uq_set hu hp pf]
      simp only [pk, Bool.true_and, Bool.false_and, Bool.not_false, Bool.and_true]
      by_cases hj : j = k
      · simp [hj]
      · simp [hj]
    · have := full_set hp ⟨k, true, true⟩
      simp only [pf, hm, if_true] at this ⊢
      omega
  | none =>
    have hm := mem_none hf
    cases hH : hole l with
    | some i =>
      have hU : useL l h k = (l.set i ⟨k, true, false⟩, h, false, false, 0) := by unfold useL; rw [hf]; simp only; rw [hH]
      obtain ⟨p, hp, pf⟩ := hole_some hH
      rw [hU]
      refine ⟨hm.symm, fun j => ?_, ?_, fun h => (by cases h), fun _ => rfl, fun h => (by cases h), List.length_set, hh⟩
      · rw [hole_set hp pf]
        simp
      · have := full_set hp ⟨k, true, false⟩
        simp [pf, hm] at this ⊢
        exact this
    | none =>
      have hFL := hole_none hH
      obtain ⟨a1, a2, a3, a4⟩ := sweep_keeps (marks l) l h hh
      have hsm := @sweep_marked l h hh
      have hU : useL l h k = ((sweep (marks l) l h).1.set (sweep (marks l) l h).2 ⟨k, true, false⟩, ((sweep (marks l) l h).2 + 1) % l.length, false, true, match (sweep (marks l) l h).1[(sweep (marks l) l h).2]? with | some p => p.k | none => 0) := by unfold useL; rw [hf]; simp only; rw [hH]; rfl
      rw [hU]
      generalize (sweep (marks l) l h).1 = l1 at *
      generalize (sweep (marks l) l h).2 = h1 at *
      have hp := List.getElem?_eq_getElem (show h1 < l1.length by omega)
      generalize l1[h1] = p at hp
      rw [hp]
      have pf : p.f = true := all_full (by omega) hp
      have hA : At l p.k h1 := (a3 _ _).1 ⟨p, hp, pf, rfl⟩
      have hu1 : Uq l1 := fun k i j x y => hu k i j ((a3 _ _).1 x) ((a3 _ _).1 y)
      have hmm : ∀ j, mem l1 j = mem l j := fun j => mem_congr ⟨fun ⟨i, hi⟩ => ⟨i, (a3 _ _).1 hi⟩, fun ⟨i, hi⟩ => ⟨i, (a3 _ _).2 hi⟩⟩
      refine ⟨hm.symm, fun j => ?_, ?_, fun _ => ⟨hm, find_of_at hA, hFL⟩, fun h => (by cases h), fun _ i x hx hxk hxm => ?_, ?_, Nat.mod_lt _ (by omega)⟩
      · simp only
        rw [uq_set hu1 hp pf, hmm]
        simp
      · have := full_set hp ⟨k, true, false⟩
        simp [pf, hm] at this ⊢
        omega
      · have hi : At l p.k i := ⟨x, hx, all_full hFL hx, hxk⟩
        obtain rfl := hu _ _ _ hi hA
        exact hsm hx hxm
      · rw [List.length_set]; exact a1
structure DropFacts (l : List Pl) (k : Int) (l' : List Pl) : Prop where
  mem_ : ∀ j, mem l' j = (mem l j && !decide (j = k))
  full_ : full l' + (if mem l k then 1 else 0) = full l
theorem drop_facts {l : List Pl} (hu : Uq l) (k : Int) : DropFacts l k (dropL l k) := by
  cases hf : find l k with
  | some i =>
    have hD : dropL l k = l.set i ⟨0, false, false⟩ := by unfold dropL; rw [hf]
    obtain ⟨p, hp, pf, pk⟩ := find_at hf
    have hm : mem l k = true := find_of_at (find_at hf)
    rw [hD]
    refine ⟨fun j => ?_, ?_⟩
    · rw [uq_set hu hp pf, pk]; simp
    · have := full_set hp ⟨0, false, false⟩
      simpa [pf, hm] using this
  | none =>
    have hD : dropL l k = l := by unfold dropL; rw [hf]
    have hm := mem_none hf
    rw [hD]
    refine ⟨fun j => ?_, by simp [hm]⟩
    by_cases hj : j = k
    · subst hj; simp [hm]
    · simp [hj]
/-- i keys that never come again -/
structure Dn (n i : Nat) (l : List Pl) (h : Nat) : Prop where
  len : l.length = n
  lo : i ≤ n → h = 0 ∧ ∀ j, i ≤ j → j < n → l[j]? = some ⟨0, false, false⟩
  hi : n ≤ i → h = i % n
  at_ : ∀ t, t < i → i ≤ t + n → l[t % n]? = some ⟨1000 + (t : Int), true, false⟩
theorem Dn.all {n i : Nat} {l : List Pl} {h : Nat} (H : Dn n i l h) (hn : 1 ≤ n) {j : Nat} (hj : j < n) : (i ≤ j ∧ l[j]? = some ⟨0, false, false⟩) ∨ (j < i ∧ ∃ t, t < i ∧ i ≤ t + n ∧ t % n = j) := by
  rcases Nat.lt_or_ge j i with h1 | h1
  · refine .inr ⟨h1, i - 1 - (i - 1 - j) % n, by omega, ?_, ?_⟩
    · have := Nat.mod_lt (i - 1 - j) (show 0 < n by omega)
      omega
    · have h2 := Nat.div_add_mod (i - 1 - j) n
      have h3 : i - 1 - (i - 1 - j) % n = j + n * ((i - 1 - j) / n) := by omega
      rw [h3, Nat.add_mul_mod_self_left, Nat.mod_eq_of_lt hj]
  · exact .inl ⟨h1, (H.lo (by omega)).2 j h1 hj⟩
theorem Dn.find_ {n i : Nat} {l : List Pl} {h : Nat} (H : Dn n i l h) (hn : 1 ≤ n) : find l (1000 + (i : Int)) = none := by
  cases hf : find l (1000 + (i : Int)) with
  | none => rfl
  | some j =>
    obtain ⟨p, hp, pf, pk⟩ := find_at hf
    have hj := (List.getElem?_eq_some_iff.1 hp).1
    rw [H.len] at hj
    rcases H.all hn hj with ⟨-, h1⟩ | ⟨-, t, h1, h2, h3⟩
    · rw [hp] at h1; cases h1; cases pf
    · have := H.at_ t h1 h2
      rw [h3, hp] at this
      cases this
      simp at pk
      omega
theorem Dn.marks_ {n i : Nat} {l : List Pl} {h : Nat} (H : Dn n i l h) (hn : 1 ≤ n) : marks l = 0 := by
  refine List.countP_eq_zero.2 fun p hp => ?_
  obtain ⟨j, hj, he⟩ := List.getElem_of_mem hp
  have hp := List.getElem?_eq_getElem hj
  rw [he] at hp
  rw [H.len] at hj
  rcases H.all hn hj with ⟨-, h1⟩ | ⟨-, t, h1, h2, h3⟩
  · rw [hp] at h1; cases h1; simp
  · have := H.at_ t h1 h2
    rw [h3, hp] at this
    cases this; simp
theorem Dn.full_to {n i : Nat} {l : List Pl} {h : Nat} (H : Dn n i l h) (hn : 1 ≤ n) : FullTo l i := fun j hj p hp => by
  have hj2 := (List.getElem?_eq_some_iff.1 hp).1
  rw [H.len] at hj2
  rcases H.all hn hj2 with ⟨h0, -⟩ | ⟨-, t, h1, h2, h3⟩
  · omega
  · have := H.at_ t h1 h2
    rw [h3, hp] at this
    cases this; rfl
theorem Dn.step {n i : Nat} {l : List Pl} {h : Nat} (H : Dn n i l h) (hn : 1 ≤ n) : ∃ l' h', useL l h (1000 + (i : Int)) = (l', h', false, decide (n ≤ i), if n ≤ i then 1000 + ((i - n : Nat) : Int) else 0) ∧ Dn n (i + 1) l' h' := by
  have hf := H.find_ hn
  rcases Nat.lt_or_ge i n with hlt | hge
  · obtain ⟨rfl, hb⟩ := H.lo (by omega)
    have hH : hole l = some i := (H.full_to hn).hole_ (hb i (Nat.le_refl _) hlt) rfl
    refine ⟨l.set i ⟨1000 + (i : Int), true, false⟩, 0, ?_, ⟨by rw [List.length_set]; exact H.len, fun h1 => ⟨rfl, fun j h2 h3 => ?_⟩, fun h1 => ?_, fun t h1 h2 => ?_⟩⟩
    · unfold useL; rw [hf]; simp only; rw [hH]
      have : ¬ n ≤ i := by omega
      simp [this]
    · rw [List.getElem?_set, if_neg (by omega)]
      exact hb j (by omega) h3
    · rw [show i + 1 = n from by omega, Nat.mod_self]
    · have hti : t < n := by omega
      rw [Nat.mod_eq_of_lt hti, List.getElem?_set]
      by_cases hj : i = t
      · subst hj
        rw [if_pos rfl, if_pos (by rw [H.len]; exact hlt)]
      · rw [if_neg hj]
        have := H.at_ t (by omega) (by omega)
        rwa [Nat.mod_eq_of_lt hti] at this
  · have hh := H.hi hge
    have hH : hole l = none := FullTo.none_ (by rw [H.len]; exact fun j hj => H.full_to hn j (by omega))
    have hln := H.len
    have hin : i % n < n := Nat.mod_lt _ (by omega)
    have h0 : l[h]? = some ⟨1000 + ((i - n : Nat) : Int), true, false⟩ := by
      have := H.at_ (i - n) (by omega) (by omega)
      rw [hh]
      rwa [show (i - n) % n = i % n from by rw [← Nat.mod_eq_sub_mod hge]] at this
    refine ⟨l.set h ⟨1000 + (i : Int), true, false⟩, (h + 1) % n, ?_, ⟨by rw [List.length_set]; exact hln, fun h1 => by omega, fun h1 => ?_, fun t h1 h2 => ?_⟩⟩
    · unfold useL; rw [hf]; simp only; rw [hH, H.marks_ hn]
      simp only [sweep, h0, hln]
      simp [hge]
    · rw [hh, Nat.mod_add_mod]
    · rw [List.getElem?_set]
      by_cases hj : t = i
      · subst hj
        rw [if_pos hh, if_pos (by omega)]
      · have hne := mod_ne (n := n) (a := 0) (show t < i by omega) (by omega)
        simp only [Nat.zero_add] at hne
        rw [if_neg (by omega)]
        exact H.at_ t (by omega) (by omega)
end Go.Proofs.Yteppcjolgpdenaa.Seq
