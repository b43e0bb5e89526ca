/-
  Second chance (layer 31): rings of places, no program.
-/
import Derived.Maps.OwnSet
set_option linter.unusedVariables false
set_option linter.unusedSimpArgs false
namespace Go.Proofs.Yteppcjolgpdenaa.Seq
open Go Go.Maps
structure Pl where
  k : Int
  f : Bool
  m : Bool
def hit (k : Int) (p : Pl) : Bool := p.f && decide (p.k = k)
def find (l : List Pl) (k : Int) : Option Nat := l.findIdx? (hit k)
def hole (l : List Pl) : Option Nat := l.findIdx? (fun p => !p.f)
def full (l : List Pl) : Nat := l.countP (·.f)
def marks (l : List Pl) : Nat := l.countP (·.m)
/-- key k is at place i -/
def At (l : List Pl) (k : Int) (i : Nat) : Prop := ∃ p, l[i]? = some p ∧ p.f = true ∧ p.k = k
theorem find_at {l : List Pl} {k : Int} {i : Nat} (h : find l k = some i) : At l k i := by
  obtain ⟨hi, h1, -⟩ := List.findIdx?_eq_some_iff_getElem.1 h
  unfold hit at h1
  simp only [Bool.and_eq_true, decide_eq_true_eq] at h1
  exact ⟨l[i], List.getElem?_eq_getElem hi, h1.1, h1.2⟩
theorem find_none {l : List Pl} {k : Int} (h : find l k = none) (i : Nat) : ¬ At l k i := by
  rintro ⟨p, h1, h2, h3⟩
  have := List.findIdx?_eq_none_iff.1 h p (List.mem_of_getElem? h1)
  simp [hit, h2, h3] at this
theorem hole_some {l : List Pl} {i : Nat} (h : hole l = some i) : ∃ p, l[i]? = some p ∧ p.f = false := by
  obtain ⟨hi, h1, -⟩ := List.findIdx?_eq_some_iff_getElem.1 h
  exact ⟨l[i], List.getElem?_eq_getElem hi, by simpa using h1⟩
theorem hole_none {l : List Pl} (h : hole l = none) : full l = l.length := by
  have := List.findIdx?_eq_none_iff.1 h
  refine List.countP_eq_length.2 fun p hp => ?_
  simpa using this p hp
theorem hole_full {l : List Pl} {i : Nat} (h : hole l = some i) : full l < l.length := by
  obtain ⟨p, h1, h2⟩ := hole_some h
  have h3 := List.countP_le_length (p := (·.f)) (l := l)
  rcases Nat.lt_or_ge (full l) l.length with h4 | h4
  · exact h4
  · have h5 : full l = l.length := Nat.le_antisymm h3 h4
    have := List.countP_eq_length.1 h5 p (List.mem_of_getElem? h1)
    rw [h2] at this
    cases this
theorem count_set (P : Pl → Bool) : ∀ (l : List Pl) (i : Nat) (p q : Pl), l[i]? = some p → (l.set i q).countP P + (if P p then 1 else 0) = l.countP P + (if P q then 1 else 0)
  | [], i, p, q, h => by simp at h
  | x :: l, 0, p, q, h => by
    simp at h
    subst h
    simp only [List.set_cons_zero, List.countP_cons]
    omega
  | x :: l, i + 1, p, q, h => by
    have := count_set P l i p q (by simpa using h)
    simp only [List.set_cons_succ, List.countP_cons]
    omega
/-- the map of the places of the keys -/
structure Mp {H : Type} (D : DataW H) (l : List Pl) : Prop where
  at_ : ∀ k i, At l k i → has D (.int .u32 k) = true ∧ ∀ z, D.atKey (.int .u32 k) z = .lit (.int .i64 (i : Int))
  no : ∀ k, (∀ i, ¬ At l k i) → has D (.int .u32 k) = false
  size : Maps.size D = full l
theorem Mp.uni {H : Type} {D : DataW H} {l : List Pl} (h : Mp D l) {k : Int} {i j : Nat} (hi : At l k i) (hj : At l k j) : i = j := by
  have h1 := (h.at_ k i hi).2 (.map [])
  have h2 := (h.at_ k j hj).2 (.map [])
  rw [h1] at h2
  simp at h2
  omega
theorem At.lt {l : List Pl} {k : Int} {i : Nat} (h : At l k i) : i < l.length := by
  obtain ⟨p, h1, -⟩ := h
  exact (List.getElem?_eq_some_iff.1 h1).1
theorem Mp.find {H : Type} {D : DataW H} {l : List Pl} (h : Mp D l) {k : Int} {i : Nat} (hi : At l k i) : find l k = some i := by
  cases hf : Seq.find l k with
  | none => exact absurd hi (find_none hf i)
  | some j => rw [h.uni hi (find_at hf)]
/-- a change that keeps keys and which places are full -/
theorem Mp.same {H : Type} {D : DataW H} {l l' : List Pl} (h : Mp D l) (hs : ∀ k i, At l' k i ↔ At l k i) (hf : full l' = full l) : Mp D l' :=
  ⟨fun k i hi => h.at_ k i ((hs k i).1 hi), fun k hk => h.no k fun i hi => hk i ((hs k i).2 hi), h.size.trans hf.symm⟩
theorem at_mark {l : List Pl} {i : Nat} {p : Pl} (hp : l[i]? = some p) (b : Bool) (k : Int) (j : Nat) : At (l.set i ⟨p.k, p.f, b⟩) k j ↔ At l k j := by
  have hi := (List.getElem?_eq_some_iff.1 hp).1
  unfold At
  rw [List.getElem?_set]
  by_cases hij : i = j
  · subst hij
    obtain ⟨-, rfl⟩ := List.getElem?_eq_some_iff.1 hp
    simp [hi]
  · simp [hij]
theorem full_mark {l : List Pl} {i : Nat} {p : Pl} (hp : l[i]? = some p) (b : Bool) : full (l.set i ⟨p.k, p.f, b⟩) = full l := by
  have := count_set (·.f) l i p ⟨p.k, p.f, b⟩ hp
  unfold full
  simp only at this
  omega
/-- key k comes into a free place -/
theorem Mp.put {H : Type} {D : DataW H} {l : List Pl} (h : Mp D l) (ht : Tidy D) {i : Nat} {p : Pl} (hp : l[i]? = some p) (hf : p.f = false) {k : Int} (hk : (Lit.int .u32 k).wf = true) (hn : ∀ j, ¬ At l k j) (b : Bool) :
    Mp (D.put (.int .u32 k) (.lit (.int .i64 (i : Int)))) (l.set i ⟨k, true, b⟩) := by
  have hi := (List.getElem?_eq_some_iff.1 hp).1
  have ha : ∀ k' j, At (l.set i ⟨k, true, b⟩) k' j ↔ (j = i ∧ k' = k) ∨ (j ≠ i ∧ At l k' j) := by
    intro k' j
    unfold At
    rw [List.getElem?_set]
    by_cases hij : i = j
    · subst hij
      rw [if_pos rfl, if_pos hi]
      constructor
      · rintro ⟨q, h1, -, h3⟩
        cases h1
        exact .inl ⟨rfl, h3.symm⟩
      · rintro (⟨-, rfl⟩ | ⟨h1, -⟩)
        · exact ⟨_, rfl, rfl, rfl⟩
        · exact absurd rfl h1
    · simp [hij, Ne.symm hij]
  have hne : ∀ {k' : Int}, k' ≠ k → (Lit.int .u32 k') ≠ (Lit.int .u32 k) := fun h1 h2 => h1 (by injection h2)
  have hkl : WideAt.IsKeyLit (Lit.int .u32 k) := by trivial
  refine ⟨fun k' j hj => ?_, fun k' hk' => ?_, ?_⟩
  · rcases (ha k' j).1 hj with ⟨rfl, rfl⟩ | ⟨h1, h2⟩
    · exact ⟨has_put_same ht.isMap hkl _, fun z => atKey_put_same ht.isMap hkl _ z⟩
    · have hkk : k' ≠ k := by rintro rfl; exact hn j h2
      obtain ⟨a1, a2⟩ := h.at_ k' j h2
      exact ⟨by rw [has_put_other (hne hkk)]; exact a1, fun z => by rw [atKey_put_other (hne hkk)]; exact a2 z⟩
  · have hkk : k' ≠ k := by rintro rfl; exact hk' i ((ha _ _).2 (.inl ⟨rfl, rfl⟩))
    rw [has_put_other (hne hkk)]
    refine h.no k' fun j hj => ?_
    by_cases hji : j = i
    · subst hji
      obtain ⟨q, h1, h2, -⟩ := hj
      rw [hp] at h1
      cases h1
      rw [hf] at h2
      cases h2
    · exact hk' j ((ha _ _).2 (.inr ⟨hji, hj⟩))
  · rw [size_put ht, h.no k hn, h.size]
    have := count_set (·.f) l i p ⟨k, true, b⟩ hp
    simp only [hf] at this
    unfold full
    simp at this ⊢
    omega
/-- the key of a place goes -/
theorem Mp.del {H : Type} {D : DataW H} {l : List Pl} (h : Mp D l) (ht : Tidy D) {i : Nat} {p : Pl} (hp : l[i]? = some p) (hf : p.f = true) {k : Int} (hk : p.k = k) (q : Pl) (hq : q.f = false) :
    Mp (D.del (.int .u32 k)) (l.set i q) := by
  have hi := (List.getElem?_eq_some_iff.1 hp).1
  have hAt : At l k i := ⟨p, hp, hf, hk⟩
  have ha : ∀ k' j, At (l.set i q) k' j ↔ j ≠ i ∧ At l k' j := by
    intro k' j
    unfold At
    rw [List.getElem?_set]
    by_cases hij : i = j
    · subst hij
      simp [hi, hq]
    · simp [hij, Ne.symm hij]
  have hne : ∀ {k' : Int}, k' ≠ k → (Lit.int .u32 k') ≠ (Lit.int .u32 k) := fun h1 h2 => h1 (by injection h2)
  refine ⟨fun k' j hj => ?_, fun k' hk' => ?_, ?_⟩
  · obtain ⟨h1, h2⟩ := (ha k' j).1 hj
    have hkk : k' ≠ k := by rintro rfl; exact h1 (h.uni h2 hAt)
    obtain ⟨a1, a2⟩ := h.at_ k' j h2
    exact ⟨by rw [has_del_other (hne hkk)]; exact a1, fun z => by rw [atKey_del_other (hne hkk)]; exact a2 z⟩
  · by_cases hkk : k' = k
    · subst hkk
      exact has_del_same
    · rw [has_del_other (hne hkk)]
      refine h.no k' fun j hj => hk' j ((ha _ _).2 ⟨?_, hj⟩)
      rintro rfl
      obtain ⟨p', h1, -, h3⟩ := hj
      rw [hp] at h1
      cases h1
      exact hkk (h3.symm.trans hk)
  · have h1 := size_del ht (k := .int .u32 k)
    rw [(h.at_ k i hAt).1, h.size] at h1
    have := count_set (·.f) l i p q hp
    simp only [hf, hq] at this
    unfold full at *
    simp at this h1
    omega
/-- the hand goes on to the first place that is not marked -/
def sweep : Nat → List Pl → Nat → List Pl × Nat
  | 0, l, h => (l, h)
  | n + 1, l, h => match l[h]? with
    | some p => if p.m then sweep n (l.set h ⟨p.k, p.f, false⟩) ((h + 1) % l.length) else (l, h)
    | none => (l, h)
theorem marks_set {l : List Pl} {h : Nat} {p : Pl} (hp : l[h]? = some p) (hm : p.m = true) : marks (l.set h ⟨p.k, p.f, false⟩) + 1 = marks l := by
  have := count_set (·.m) l h p ⟨p.k, p.f, false⟩ hp
  simp only [hm] at this
  unfold marks
  simpa using this
theorem sweep_step {l : List Pl} {h : Nat} {p : Pl} (hp : l[h]? = some p) (hm : p.m = true) : sweep (marks l) l h = sweep (marks (l.set h ⟨p.k, p.f, false⟩)) (l.set h ⟨p.k, p.f, false⟩) ((h + 1) % l.length) := by
  rw [← marks_set hp hm]
  show (match l[h]? with
    | some p => if p.m then sweep _ (l.set h ⟨p.k, p.f, false⟩) ((h + 1) % l.length) else (l, h)
    | none => (l, h)) = _
  rw [hp]
  simp [hm]
theorem sweep_end {l : List Pl} {h : Nat} {p : Pl} (hp : l[h]? = some p) (hm : p.m = false) (n : Nat) : sweep n l h = (l, h) := by
  cases n with
  | zero => rfl
  | succ n => simp [sweep, hp, hm]
theorem sweep_keeps : ∀ (n : Nat) (l : List Pl) (h : Nat), h < l.length → (sweep n l h).1.length = l.length ∧ (sweep n l h).2 < l.length ∧ (∀ k i, At (sweep n l h).1 k i ↔ At l k i) ∧ full (sweep n l h).1 = full l
  | 0, l, h, hh => ⟨rfl, hh, fun _ _ => Iff.rfl, rfl⟩
  | n + 1, l, h, hh => by
    have hp := List.getElem?_eq_getElem hh
    unfold sweep
    rw [hp]
    simp only
    split
    · have hm : (h + 1) % l.length < l.length := Nat.mod_lt _ (by omega)
      obtain ⟨a1, a2, a3, a4⟩ := sweep_keeps n (l.set h ⟨l[h].k, l[h].f, false⟩) ((h + 1) % l.length) (by rw [List.length_set]; exact hm)
      rw [List.length_set] at a1 a2
      exact ⟨a1, a2, fun k i => (a3 k i).trans (at_mark hp false k i), a4.trans (full_mark hp false)⟩
    · exact ⟨rfl, hh, fun _ _ => Iff.rfl, rfl⟩
end Go.Proofs.Yteppcjolgpdenaa.Seq
