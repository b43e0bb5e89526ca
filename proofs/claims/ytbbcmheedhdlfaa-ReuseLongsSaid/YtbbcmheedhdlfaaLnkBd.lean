/-
  Links (layer 14): Join, the rings.
-/
import Derived.Test.YtbbcmheedhdlfaaLnkA
set_option linter.unusedVariables false
set_option linter.unusedSimpArgs false
namespace Go.Proofs.Ytbbcmheedhdlfaa.Lnk
/-- the nodes behind Join -/
def joinF (F : Fd) (ra rb b x e z : Nat) (La : List Nat) : Fd where
  pv := fun y => if y = ra then ra else if y = rb then z else if y = x then e else F.pv y
  nx := fun y => if y = ra then ra else if y = z then rb else if y = e then x else F.nx y
  hd := fun y => if y ∈ La then (b : Int) else F.hd y
theorem lst_in : ∀ (a : Nat) (l : List Nat), l ≠ [] → lst a l ∈ l
  | a, [], h => absurd rfl h
  | a, [x], _ => by simp [lst]
  | a, x :: y :: l, _ => List.mem_cons_of_mem _ (lst_in x (y :: l) (by simp))
theorem Ring.join {F : Fd} {N : Nat} {Ls : List (List Nat)} (R : Ring F N Ls) {a b x : Nat} {La' Lb : List Nat} (ha : Ls[a]? = some (x :: La')) (hb : Ls[b]? = some Lb) (hab : a ≠ b) :
    Ring (joinF F (N + a) (N + b) b x (lst (N + b) Lb) (lst (N + a) (x :: La')) (x :: La')) N ((Ls.set b (Lb ++ x :: La')).set a []) := by
  have hal := (List.getElem?_eq_some_iff.1 ha).1
  have hbl := (List.getElem?_eq_some_iff.1 hb).1
  have ma := fun y hy => R.mem a _ y ha hy
  have mb := fun y hy => R.mem b _ y hb hy
  have na := R.nodup a _ ha
  have nb := R.nodup b _ hb
  have dis : ∀ y, y ∈ x :: La' → y ∈ Lb → False := fun y h1 h2 => hab (R.uni ha hb h1 h2)
  have hz : lst (N + a) (x :: La') ∈ x :: La' := lst_in _ _ (by simp)
  have he : lst (N + b) Lb = N + b ∨ lst (N + b) Lb ∈ Lb := by
    cases Lb with
    | nil => exact .inl rfl
    | cons y l => exact .inr (lst_in _ _ (by simp))
  have hx := ma x (by simp)
  have hzN := (ma _ hz).1
  generalize hze : lst (N + a) (x :: La') = z at *
  generalize hee : lst (N + b) Lb = e at *
  have heN : e ≠ N + a := by rcases he with h | h; omega; have := (mb e h).1; omega
  have hez : e ≠ z := by rcases he with h | h; omega; exact fun h2 => dis z hz (h2 ▸ h)
  have hex : e ≠ x := by rcases he with h | h; omega; exact fun h2 => dis x (by simp) (h2 ▸ h)
  have get : ∀ (k : Nat) (l : List Nat), ((Ls.set b (Lb ++ x :: La')).set a [])[k]? = some l → (k = a ∧ l = []) ∨ (k = b ∧ l = Lb ++ x :: La') ∨ (k ≠ a ∧ k ≠ b ∧ Ls[k]? = some l) := by
    intro k l hk
    by_cases h1 : k = a
    · subst h1
      rw [List.getElem?_set_self (by simpa using hal)] at hk
      cases hk
      exact .inl ⟨rfl, rfl⟩
    · rw [List.getElem?_set_ne (by omega)] at hk
      by_cases h2 : k = b
      · subst h2
        rw [List.getElem?_set_self hbl] at hk
        cases hk
        exact .inr (.inl ⟨rfl, rfl⟩)
      · rw [List.getElem?_set_ne (by omega)] at hk
        exact .inr (.inr ⟨h1, h2, hk⟩)
  have nxo : ∀ y, y ≠ N + a → y ≠ z → y ≠ e → (joinF F (N + a) (N + b) b x e z (x :: La')).nx y = F.nx y := fun y h1 h2 h3 => by simp [joinF, h1, h2, h3]
  have pvo : ∀ y, y ≠ N + a → y ≠ N + b → y ≠ x → (joinF F (N + a) (N + b) b x e z (x :: La')).pv y = F.pv y := fun y h1 h2 h3 => by simp [joinF, h1, h2, h3]
  constructor
  · intro k l hk
    rcases get k l hk with ⟨rfl, rfl⟩ | ⟨rfl, rfl⟩ | ⟨h1, h2, h3⟩
    · exact ⟨by simp [joinF], by simp [joinF]⟩
    · refine ch_split.2 ⟨Ch.relink (R.ch k Lb hb) ?_ ?_ ?_ ?_ ?_, Ch.relink (R.ch a _ ha).2.2 na ?_ ?_ ?_ ?_⟩
      · exact List.nodup_cons.2 ⟨fun h => by have := (mb _ h).1; omega, nb⟩
      · intro y hy hye
        rw [hee] at hye
        refine nxo y ?_ ?_ hye
        · rcases hy with rfl | hy; omega; have := (mb y hy).1; omega
        · rcases hy with rfl | hy; omega; exact fun h => dis z hz (h ▸ hy)
      · rw [hee]; simp [joinF, heN, hez]
      · intro y hy
        have := (mb y hy).1
        exact pvo y (by omega) (by omega) (fun h => dis x (by simp) (h ▸ hy))
      · rw [hee]; have := hx.1; simp [joinF, show x ≠ N + a by omega, show x ≠ N + k by omega]
      · intro y hy hye
        have hye2 : y ≠ z := by rw [← hze]; exact hye
        have hyin : y ∈ x :: La' := by rcases hy with rfl | hy; simp; exact List.mem_cons_of_mem _ hy
        have := (ma y hyin).1
        refine nxo y (by omega) hye2 ?_
        rcases he with h | h
        · omega
        · exact fun h2 => dis y hyin (h2 ▸ h)
      · have : lst x La' = z := hze
        rw [this]
        simp [joinF, show z ≠ N + a by omega]
      · intro y hy
        have hy2 := (ma y (List.mem_cons_of_mem _ hy)).1
        refine pvo y (by omega) (by omega) (fun h => ?_)
        subst h
        exact (List.nodup_cons.1 na).1 hy
      · have : lst x La' = z := hze
        rw [this]
        have hka : ¬ k = a := fun h => hab h.symm
        simp [joinF, hka]
    · have mk := fun y hy => R.mem k l y h3 hy
      refine Ch.of (R.ch k l h3) ?_ ?_
      · intro y hy
        refine nxo y ?_ ?_ ?_
        · rcases hy with rfl | hy; omega; have := (mk y hy).1; omega
        · rcases hy with rfl | hy; omega; exact fun h => h1 (R.uni h3 ha hy (h ▸ hz))
        · rcases he with h | h
          · rcases hy with rfl | hy; omega; have := (mk y hy).1; omega
          · rcases hy with rfl | hy; have := (mb e h).1; omega; exact fun h' => h2 (R.uni h3 hb hy (h' ▸ h))
      · intro y hy
        refine pvo y ?_ ?_ ?_
        · rcases hy with rfl | hy; omega; have := (mk y hy).1; omega
        · rcases hy with rfl | hy; omega; have := (mk y hy).1; omega
        · rcases hy with rfl | hy; have := hx.1; omega; exact fun h => h1 (R.uni h3 ha hy (h ▸ by simp))
  · intro k hk
    have : N + k ∉ x :: La' := fun h => by have := (ma _ h).1; omega
    simp only [joinF, if_neg this]
    exact R.root k (by simpa using hk)
  · intro k l y hk hy
    rcases get k l hk with ⟨rfl, rfl⟩ | ⟨rfl, rfl⟩ | ⟨h1, h2, h3⟩
    · cases hy
    · rcases List.mem_append.1 hy with h | h
      · refine ⟨(mb y h).1, ?_⟩
        simp only [joinF, if_neg (fun h' => dis y h' h)]
        exact (mb y h).2
      · refine ⟨(ma y h).1, ?_⟩
        simp only [joinF, if_pos h]
    · refine ⟨(R.mem k l y h3 hy).1, ?_⟩
      simp only [joinF, if_neg (fun h' => h1 (R.uni h3 ha hy h'))]
      exact (R.mem k l y h3 hy).2
  · intro y hy hno
    have hnb : y ∉ Lb ++ x :: La' := hno b _ (by rw [List.getElem?_set_ne hab, List.getElem?_set_self hbl])
    have hna : y ∉ x :: La' := fun h => hnb (List.mem_append_right _ h)
    simp only [joinF, if_neg hna]
    refine R.out y hy fun k l hl hm => ?_
    by_cases h1 : k = a
    · subst h1; rw [ha] at hl; cases hl; exact hna hm
    · by_cases h2 : k = b
      · subst h2; rw [hb] at hl; cases hl; exact hnb (List.mem_append_left _ hm)
      · exact hno k l (by rw [List.getElem?_set_ne (by omega), List.getElem?_set_ne (by omega)]; exact hl) hm
  · intro k l hk
    rcases get k l hk with ⟨rfl, rfl⟩ | ⟨rfl, rfl⟩ | ⟨h1, h2, h3⟩
    · exact List.nodup_nil
    · exact List.nodup_append.2 ⟨nb, na, fun y hy y' hy' h => dis y (h ▸ hy') hy⟩
    · exact R.nodup k l h3
end Go.Proofs.Ytbbcmheedhdlfaa.Lnk
