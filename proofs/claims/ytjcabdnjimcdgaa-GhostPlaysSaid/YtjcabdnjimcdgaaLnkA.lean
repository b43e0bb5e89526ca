/-
  Links (layer 14): rings of nodes, no program.
-/
import Derived.Lib.Hide
set_option linter.unusedVariables false
set_option linter.unusedSimpArgs false
namespace Go.Proofs.Ytjcabdnjimcdgaa.Lnk
/-- a node: those beside it, its list -/
structure Nd where
  p : Nat
  n : Nat
  h : Int
/-- a field, looked at as functions -/
structure Fd where
  pv : Nat → Nat
  nx : Nat → Nat
  hd : Nat → Int
/-- a chain from a to b over l -/
def Ch (F : Fd) : Nat → List Nat → Nat → Prop
  | a, [], b => F.nx a = b ∧ F.pv b = a
  | a, x :: l, b => F.nx a = x ∧ F.pv x = a ∧ Ch F x l b
theorem ch_split {F : Fd} : ∀ {a : Nat} {l1 : List Nat} {x : Nat} {l2 : List Nat} {b : Nat}, Ch F a (l1 ++ x :: l2) b ↔ Ch F a l1 x ∧ Ch F x l2 b
  | a, [], x, l2, b => by simp [Ch, and_assoc]
  | a, y :: l1, x, l2, b => by
    simp only [List.cons_append, Ch]
    rw [ch_split]
    simp [and_assoc]
/-- the last of a :: l -/
def lst : Nat → List Nat → Nat
  | a, [] => a
  | _, x :: l => lst x l
theorem lst_append (a : Nat) : ∀ (l1 : List Nat) (x : Nat) (l2 : List Nat), lst a (l1 ++ x :: l2) = lst x l2 := by
  intro l1
  induction l1 generalizing a with
  | nil => intro x l2; rfl
  | cons y l1 ih => intro x l2; exact ih y x l2
theorem lst_mem : ∀ {a : Nat} {l : List Nat}, lst a l = a ∨ lst a l ∈ l
  | a, [] => .inl rfl
  | a, x :: l => by
    rcases lst_mem (a := x) (l := l) with h | h
    · right; unfold lst; rw [h]; simp
    · right; unfold lst; exact List.mem_cons_of_mem _ h
/-- the first of l ++ [b] -/
def fst : List Nat → Nat → Nat
  | [], b => b
  | x :: _, _ => x
theorem Ch.first {F : Fd} {a b : Nat} {l : List Nat} (h : Ch F a l b) : F.nx a = fst l b := by
  cases l with
  | nil => exact h.1
  | cons x l => exact h.1
theorem Ch.last {F : Fd} : ∀ {a : Nat} {l : List Nat} {b : Nat}, Ch F a l b → F.pv b = lst a l
  | a, [], b, h => h.2
  | a, x :: l, b, h => Ch.last (a := x) (l := l) h.2.2
theorem Ch.nextLast {F : Fd} : ∀ {a : Nat} {l : List Nat} {b : Nat}, Ch F a l b → F.nx (lst a l) = b
  | a, [], b, h => h.1
  | a, x :: l, b, h => Ch.nextLast (a := x) (l := l) h.2.2
theorem Ch.prevFirst {F : Fd} {a b : Nat} {l : List Nat} (h : Ch F a l b) : F.pv (fst l b) = a := by
  cases l with
  | nil => exact h.2
  | cons x l => exact h.2.1
/-- a chain is kept where its links are kept -/
theorem Ch.of {F G : Fd} : ∀ {a : Nat} {l : List Nat} {b : Nat}, Ch F a l b → (∀ x, x = a ∨ x ∈ l → G.nx x = F.nx x) → (∀ x, x = b ∨ x ∈ l → G.pv x = F.pv x) → Ch G a l b
  | a, [], b, h, hn, hp => ⟨(hn a (.inl rfl)).trans h.1, (hp b (.inl rfl)).trans h.2⟩
  | a, x :: l, b, h, hn, hp => ⟨(hn a (.inl rfl)).trans h.1, (hp x (.inr (by simp))).trans h.2.1, Ch.of h.2.2 (fun y hy => hn y (.inr (by rcases hy with rfl | hy <;> simp_all))) (fun y hy => hp y (by rcases hy with rfl | hy; exact .inl rfl; exact .inr (List.mem_cons_of_mem _ hy)))⟩
/-- the end of a chain is put elsewhere -/
theorem Ch.relink {F G : Fd} {c : Nat} : ∀ {a : Nat} {l : List Nat} {b : Nat}, Ch F a l b → (a :: l).Nodup → (∀ x, x = a ∨ x ∈ l → x ≠ lst a l → G.nx x = F.nx x) → G.nx (lst a l) = c → (∀ x, x ∈ l → G.pv x = F.pv x) → G.pv c = lst a l → Ch G a l c
  | a, [], b, h, hd, hn, h1, hp, h2 => ⟨h1, h2⟩
  | a, x :: l, b, h, hd, hn, h1, hp, h2 => by
    rw [List.nodup_cons] at hd
    have hne : a ≠ lst a (x :: l) := by
      intro he
      rcases lst_mem (a := x) (l := l) with h3 | h3
      · exact hd.1 (by rw [he]; show lst x l ∈ _; rw [h3]; simp)
      · exact hd.1 (by rw [he]; exact List.mem_cons_of_mem _ h3)
    refine ⟨(hn a (.inl rfl) hne).trans h.1, (hp x (by simp)).trans h.2.1, Ch.relink h.2.2 hd.2 (fun y hy hye => hn y (.inr (by rcases hy with rfl | hy <;> simp_all)) hye) h1 (fun y hy => hp y (List.mem_cons_of_mem _ hy)) h2⟩
/-- the lists of a field -/
structure Ring (F : Fd) (N : Nat) (Ls : List (List Nat)) : Prop where
  ch : ∀ (h : Nat) (l : List Nat), Ls[h]? = some l → Ch F (N + h) l (N + h)
  root : ∀ h, h < Ls.length → F.hd (N + h) = (h : Int)
  mem : ∀ (h : Nat) (l : List Nat) (x : Nat), Ls[h]? = some l → x ∈ l → x < N ∧ F.hd x = (h : Int)
  out : ∀ x, x < N → (∀ (h : Nat) (l : List Nat), Ls[h]? = some l → x ∉ l) → F.hd x = -1
  nodup : ∀ (h : Nat) (l : List Nat), Ls[h]? = some l → l.Nodup
theorem Ring.uni {F : Fd} {N : Nat} {Ls : List (List Nat)} (R : Ring F N Ls) {h k x : Nat} {l m : List Nat} (h1 : Ls[h]? = some l) (h2 : Ls[k]? = some m) (x1 : x ∈ l) (x2 : x ∈ m) : h = k := by
  have e1 := (R.mem h l x h1 x1).2
  have e2 := (R.mem k m x h2 x2).2
  rw [e1] at e2
  omega
/-- x is in no list -/
def Free (Ls : List (List Nat)) (x : Nat) : Prop := ∀ (h : Nat) (l : List Nat), Ls[h]? = some l → x ∉ l
theorem Ring.free_iff {F : Fd} {N : Nat} {Ls : List (List Nat)} (R : Ring F N Ls) {x : Nat} (hx : x < N) : F.hd x = -1 ↔ Free Ls x := by
  constructor
  · intro h k l hl hm
    have := (R.mem k l x hl hm).2
    omega
  · exact R.out x hx
theorem Ring.in_list {F : Fd} {N : Nat} {Ls : List (List Nat)} (R : Ring F N Ls) {x : Nat} (hx : x < N) (h : F.hd x ≠ -1) : ∃ (k : Nat) (l : List Nat), Ls[k]? = some l ∧ x ∈ l ∧ F.hd x = (k : Int) := by
  by_cases hf : Free Ls x
  · exact absurd (R.out x hx hf) h
  · have hex : ∃ (k : Nat) (l : List Nat), Ls[k]? = some l ∧ x ∈ l := Classical.byContradiction fun hc => hf fun k l hl hm => hc ⟨k, l, hl, hm⟩
    obtain ⟨k, l, hl, hm⟩ := hex
    exact ⟨k, l, hl, hm, (R.mem k l x hl hm).2⟩
/-- what link makes of a field -/
def linkF (F : Fd) (n o : Nat) : Fd where
  pv := fun x => if x = o then n else if x = n then F.pv o else F.pv x
  nx := fun x => if x = F.pv o then n else if x = n then o else F.nx x
  hd := fun x => if x = n then F.hd o else F.hd x
/-- list h is l1 ++ l2, n comes between them, o is the first of l2 or the root -/
theorem Ring.link {F : Fd} {N : Nat} {Ls : List (List Nat)} (R : Ring F N Ls) {h n : Nat} {l1 l2 : List Nat} (hl : Ls[h]? = some (l1 ++ l2)) (hn : n < N) (hf : Free Ls n) :
    Ring (linkF F n (fst l2 (N + h))) N (Ls.set h (l1 ++ n :: l2)) ∧ F.hd (fst l2 (N + h)) = (h : Int) := by
  have hh : h < Ls.length := (List.getElem?_eq_some_iff.1 hl).1
  have hc := R.ch h _ hl
  have hnd := R.nodup h _ hl
  have hmem := fun x hx => R.mem h _ x hl hx
  have hnl : n ∉ l1 ++ l2 := hf h _ hl
  obtain ⟨o, ho⟩ : ∃ o, fst l2 (N + h) = o := ⟨_, rfl⟩
  have hoh : F.hd o = (h : Int) := by
    rw [← ho]
    cases l2 with
    | nil => exact R.root h hh
    | cons y l2 => exact (hmem y (by simp)).2
  have hno : n ≠ o := by
    rw [← ho]
    cases l2 with
    | nil => show n ≠ N + h; omega
    | cons y l2 => intro he; exact hnl (by rw [he]; show y ∈ _; simp)
  -- the part before
  have h1 : Ch F (N + h) l1 o := by
    rw [← ho]
    cases l2 with
    | nil => simpa [fst] using hc
    | cons y l2 => exact (ch_split.1 hc).1
  have hp : F.pv o = lst (N + h) l1 := h1.last
  have hrl : (N + h) ∉ l1 ++ l2 := fun hm => by have := (hmem _ hm).1; omega
  have hnd1 : ((N + h) :: l1).Nodup := by
    rw [List.nodup_cons]
    exact ⟨fun hm => hrl (List.mem_append_left _ hm), (List.nodup_append.1 hnd).1⟩
  have hol1 : o ∉ l1 := by
    rw [← ho]
    cases l2 with
    | nil => exact fun hm => hrl (List.mem_append_left _ hm)
    | cons y l2 => exact fun hm => (List.nodup_append.1 hnd).2.2 y hm y (by simp) rfl
  have hlst : lst (N + h) l1 = N + h ∨ lst (N + h) l1 ∈ l1 := lst_mem
  have hln : lst (N + h) l1 ≠ n := by
    rcases hlst with h2 | h2
    · omega
    · exact fun he => hnl (by rw [← he]; exact List.mem_append_left _ h2)
  rw [ho]
  refine ⟨⟨fun k l hk => ?_, fun k hk => ?_, fun k l x hk hx => ?_, fun x hx hfx => ?_, fun k l hk => ?_⟩, hoh⟩
  · by_cases hkh : k = h
    · subst hkh
      rw [List.getElem?_set_self hh] at hk
      cases hk
      refine ch_split.2 ⟨?_, ?_⟩
      · refine Ch.relink h1 hnd1 (fun x hx hxl => ?_) ?_ (fun x hx => ?_) ?_
        · show (if x = F.pv o then n else if x = n then o else F.nx x) = _
          rw [if_neg (by rw [hp]; exact hxl), if_neg]
          rcases hx with rfl | hx
          · omega
          · exact fun he => hnl (by rw [← he]; exact List.mem_append_left _ hx)
        · show (if lst (N + k) l1 = F.pv o then n else _) = _
          rw [if_pos hp.symm]
        · show (if x = o then n else if x = n then F.pv o else F.pv x) = _
          rw [if_neg (fun he => hol1 (by rw [← he]; exact hx)), if_neg (fun he => hnl (by rw [← he]; exact List.mem_append_left _ hx))]
        · show (if n = o then n else if n = n then F.pv o else F.pv n) = _
          rw [if_neg hno, if_pos rfl, hp]
      · -- from n on
        have e1 : (linkF F n o).nx n = o := by
          show (if n = F.pv o then n else if n = n then o else F.nx n) = _
          rw [if_neg (by rw [hp]; exact hln.symm), if_pos rfl]
        have e2 : (linkF F n o).pv o = n := by
          show (if o = o then n else _) = _
          rw [if_pos rfl]
        cases l2 with
        | nil =>
          have : o = N + k := ho.symm
          subst this
          exact ⟨e1, e2⟩
        | cons y l2 =>
          have : o = y := ho.symm
          subst this
          refine ⟨e1, e2, (ch_split.1 hc).2.of (fun x hx => ?_) (fun x hx => ?_)⟩
          · show (if x = F.pv o then n else if x = n then o else F.nx x) = _
            have hx2 : x ∈ o :: l2 := by rcases hx with rfl | hx <;> simp_all
            rw [if_neg, if_neg (fun he => hnl (by rw [← he]; exact List.mem_append_right _ hx2))]
            intro he
            rw [hp] at he
            rcases hlst with h2 | h2
            · exact hrl (by rw [← h2, ← he]; exact List.mem_append_right _ hx2)
            · exact (List.nodup_append.1 hnd).2.2 _ h2 x hx2 he.symm
          · show (if x = o then n else if x = n then F.pv o else F.pv x) = _
            have hd2 := (List.nodup_append.1 hnd).2.1
            rw [List.nodup_cons] at hd2
            rcases hx with rfl | hx
            · rw [if_neg (fun he => hrl (by rw [he]; simp)), if_neg (by omega)]
            · rw [if_neg (fun he => hd2.1 (by rw [← he]; exact hx)), if_neg (fun he => hnl (by rw [← he]; simp [hx]))]
    · rw [List.getElem?_set_ne (by omega)] at hk
      have hk2 := R.ch k l hk
      have hrk : k < Ls.length := (List.getElem?_eq_some_iff.1 hk).1
      have hok : o ≠ N + k ∧ o ∉ l := by
        constructor
        · intro he
          have := R.root k hrk
          rw [← he, hoh] at this
          omega
        · intro hm
          have := (R.mem k l o hk hm).2
          rw [hoh] at this
          omega
      have hpk : F.pv o ≠ N + k ∧ F.pv o ∉ l := by
        rw [hp]
        rcases hlst with h2 | h2
        · rw [h2]
          refine ⟨by omega, fun hm => ?_⟩
          have := (R.mem k l _ hk hm).1
          omega
        · have h3 := hmem _ (List.mem_append_left l2 h2)
          refine ⟨by omega, fun hm => ?_⟩
          have := (R.mem k l _ hk hm).2
          rw [h3.2] at this
          omega
      have hnk : n ∉ l := hf k l hk
      refine hk2.of (fun x hx => ?_) (fun x hx => ?_)
      · show (if x = F.pv o then n else if x = n then o else F.nx x) = _
        rcases hx with rfl | hx
        · rw [if_neg (Ne.symm hpk.1), if_neg (by omega)]
        · rw [if_neg (fun he => hpk.2 (by rw [← he]; exact hx)), if_neg (fun he => hnk (by rw [← he]; exact hx))]
      · show (if x = o then n else if x = n then F.pv o else F.pv x) = _
        rcases hx with rfl | hx
        · rw [if_neg (Ne.symm hok.1), if_neg (by omega)]
        · rw [if_neg (fun he => hok.2 (by rw [← he]; exact hx)), if_neg (fun he => hnk (by rw [← he]; exact hx))]
  · rw [List.length_set] at hk
    show (if N + k = n then F.hd o else F.hd (N + k)) = _
    rw [if_neg (by omega)]
    exact R.root k hk
  · show x < N ∧ (if x = n then F.hd o else F.hd x) = _
    by_cases hkh : k = h
    · subst hkh
      rw [List.getElem?_set_self hh] at hk
      cases hk
      by_cases hxn : x = n
      · subst hxn
        rw [if_pos rfl]
        exact ⟨hn, hoh⟩
      · rw [if_neg hxn]
        refine hmem x ?_
        simp only [List.mem_append, List.mem_cons] at hx ⊢
        rcases hx with hx | hx | hx
        · exact .inl hx
        · exact absurd hx hxn
        · exact .inr hx
    · rw [List.getElem?_set_ne (by omega)] at hk
      rw [if_neg (fun he => hf k l hk (by rw [← he]; exact hx))]
      exact R.mem k l x hk hx
  · show (if x = n then F.hd o else F.hd x) = _
    have hxn : x ≠ n := by
      intro he
      subst he
      exact hfx h _ (List.getElem?_set_self hh) (by simp)
    rw [if_neg hxn]
    refine R.out x hx fun k l hk hm => ?_
    by_cases hkh : k = h
    · subst hkh
      rw [hl] at hk
      cases hk
      refine hfx k _ (List.getElem?_set_self hh) ?_
      simp only [List.mem_append, List.mem_cons] at hm ⊢
      rcases hm with hm | hm
      · exact .inl hm
      · exact .inr (.inr hm)
    · exact hfx k l (by rw [List.getElem?_set_ne (by omega)]; exact hk) hm
  · by_cases hkh : k = h
    · subst hkh
      rw [List.getElem?_set_self hh] at hk
      cases hk
      rw [List.nodup_append]
      obtain ⟨d1, d2, d3⟩ := List.nodup_append.1 hnd
      refine ⟨d1, List.nodup_cons.2 ⟨fun hm => hnl (List.mem_append_right _ hm), d2⟩, fun x hx y hy => ?_⟩
      rcases List.mem_cons.1 hy with rfl | hy
      · exact fun he => hnl (by rw [← he]; exact List.mem_append_left _ hx)
      · exact d3 x hx y hy
    · rw [List.getElem?_set_ne (by omega)] at hk
      exact R.nodup k l hk
/-- what Remove makes of a field -/
def unlinkF (F : Fd) (x : Nat) : Fd where
  pv := fun y => if y = F.nx x then F.pv x else F.pv y
  nx := fun y => if y = F.pv x then F.nx x else F.nx y
  hd := fun y => if y = x then -1 else F.hd y
theorem Ring.parts {F : Fd} {N : Nat} {Ls : List (List Nat)} (R : Ring F N Ls) {h x : Nat} {l1 l2 : List Nat} (hl : Ls[h]? = some (l1 ++ x :: l2)) : Ch F (N + h) l1 x ∧ Ch F x l2 (N + h) ∧ F.pv x = lst (N + h) l1 ∧ F.nx x = fst l2 (N + h) := by
  have hc := ch_split.1 (R.ch h _ hl)
  exact ⟨hc.1, hc.2, hc.1.last, hc.2.first⟩
theorem Ring.unlink {F : Fd} {N : Nat} {Ls : List (List Nat)} (R : Ring F N Ls) {h x : Nat} {l1 l2 : List Nat} (hl : Ls[h]? = some (l1 ++ x :: l2)) : Ring (unlinkF F x) N (Ls.set h (l1 ++ l2)) := by
  have hh : h < Ls.length := (List.getElem?_eq_some_iff.1 hl).1
  have hnd := R.nodup h _ hl
  have hmem := fun y hy => R.mem h _ y hl hy
  obtain ⟨h1, h2, hp, hs⟩ := R.parts hl
  have hx := hmem x (by simp)
  have hrl : (N + h) ∉ l1 ++ x :: l2 := fun hm => by have := (hmem _ hm).1; omega
  obtain ⟨d1, d2, d3⟩ := List.nodup_append.1 hnd
  rw [List.nodup_cons] at d2
  have hx1 : x ∉ l1 := fun hm => d3 x hm x (by simp) rfl
  have hlst : lst (N + h) l1 = N + h ∨ lst (N + h) l1 ∈ l1 := lst_mem
  have hfst : fst l2 (N + h) = N + h ∨ fst l2 (N + h) ∈ l2 := by cases l2 with | nil => exact .inl rfl | cons y l2 => exact .inr (by simp [fst])
  have hnd1 : ((N + h) :: l1).Nodup := by
    rw [List.nodup_cons]
    exact ⟨fun hm => hrl (List.mem_append_left _ hm), d1⟩
  -- l1 up to the successor of x
  have key : Ch (unlinkF F x) (N + h) l1 (fst l2 (N + h)) := by
    refine Ch.relink h1 hnd1 (fun y hy hyl => ?_) ?_ (fun y hy => ?_) ?_
    · show (if y = F.pv x then F.nx x else F.nx y) = _
      rw [if_neg (by rw [hp]; exact hyl)]
    · show (if lst (N + h) l1 = F.pv x then F.nx x else _) = _
      rw [if_pos hp.symm, hs]
    · show (if y = F.nx x then F.pv x else F.pv y) = _
      rw [if_neg]
      rw [hs]
      intro he
      rcases hfst with h3 | h3
      · exact hrl (by rw [← h3, ← he]; exact List.mem_append_left _ hy)
      · exact d3 y hy y (by rw [he]; exact List.mem_cons_of_mem _ h3) rfl
    · show (if fst l2 (N + h) = F.nx x then F.pv x else _) = _
      rw [if_pos hs.symm, hp]
  refine ⟨fun k l hk => ?_, fun k hk => ?_, fun k l y hk hy => ?_, fun y hy hfy => ?_, fun k l hk => ?_⟩
  · by_cases hkh : k = h
    · subst hkh
      rw [List.getElem?_set_self hh] at hk
      cases hk
      cases l2 with
      | nil => simpa [fst] using key
      | cons y l2 =>
        refine ch_split.2 ⟨key, h2.2.2.of (fun z hz => ?_) (fun z hz => ?_)⟩
        · show (if z = F.pv x then F.nx x else F.nx z) = _
          have hz2 : z ∈ y :: l2 := by rcases hz with rfl | hz <;> simp_all
          rw [if_neg]
          rw [hp]
          intro he
          rcases hlst with h3 | h3
          · exact hrl (by rw [← h3, ← he]; exact List.mem_append_right _ (List.mem_cons_of_mem _ hz2))
          · exact d3 _ h3 z (List.mem_cons_of_mem _ hz2) he.symm
        · show (if z = F.nx x then F.pv x else F.pv z) = _
          have hsy : F.nx x = y := hs
          rw [if_neg]
          rw [hsy]
          intro he
          rcases hz with rfl | hz
          · exact hrl (by rw [he]; simp)
          · have := d2.2
            rw [List.nodup_cons] at this
            exact this.1 (by rw [← he]; exact hz)
    · rw [List.getElem?_set_ne (by omega)] at hk
      have hk2 := R.ch k l hk
      have hrk : k < Ls.length := (List.getElem?_eq_some_iff.1 hk).1
      have far : ∀ y, (y = N + h ∨ y ∈ l1 ++ x :: l2) → y ≠ N + k ∧ y ∉ l := by
        intro y hy
        rcases hy with rfl | hy
        · refine ⟨by omega, fun hm => ?_⟩
          have := (R.mem k l _ hk hm).1
          omega
        · have h3 := hmem y hy
          refine ⟨by omega, fun hm => ?_⟩
          have := (R.mem k l y hk hm).2
          rw [h3.2] at this
          omega
      have fp := far (F.pv x) (by rw [hp]; rcases hlst with h3 | h3; exact .inl h3; exact .inr (List.mem_append_left _ h3))
      have fs := far (F.nx x) (by rw [hs]; rcases hfst with h3 | h3; exact .inl h3; exact .inr (List.mem_append_right _ (List.mem_cons_of_mem _ h3)))
      refine hk2.of (fun y hy => ?_) (fun y hy => ?_)
      · show (if y = F.pv x then F.nx x else F.nx y) = _
        rcases hy with rfl | hy
        · rw [if_neg (Ne.symm fp.1)]
        · rw [if_neg (fun he => fp.2 (by rw [← he]; exact hy))]
      · show (if y = F.nx x then F.pv x else F.pv y) = _
        rcases hy with rfl | hy
        · rw [if_neg (Ne.symm fs.1)]
        · rw [if_neg (fun he => fs.2 (by rw [← he]; exact hy))]
  · rw [List.length_set] at hk
    show (if N + k = x then -1 else F.hd (N + k)) = _
    rw [if_neg (by omega)]
    exact R.root k hk
  · show y < N ∧ (if y = x then -1 else F.hd y) = _
    by_cases hkh : k = h
    · subst hkh
      rw [List.getElem?_set_self hh] at hk
      cases hk
      have hyx : y ≠ x := by
        rintro rfl
        rcases List.mem_append.1 hy with hm | hm
        · exact hx1 hm
        · exact d2.1 hm
      rw [if_neg hyx]
      refine hmem y ?_
      rcases List.mem_append.1 hy with hm | hm
      · exact List.mem_append_left _ hm
      · exact List.mem_append_right _ (List.mem_cons_of_mem _ hm)
    · rw [List.getElem?_set_ne (by omega)] at hk
      have h3 := R.mem k l y hk hy
      rw [if_neg (fun he => by rw [he, hx.2] at h3; omega)]
      exact h3
  · show (if y = x then -1 else F.hd y) = _
    by_cases hyx : y = x
    · rw [if_pos hyx]
    · rw [if_neg hyx]
      refine R.out y hy fun k l hk hm => ?_
      by_cases hkh : k = h
      · subst hkh
        rw [hl] at hk
        cases hk
        refine hfy k _ (List.getElem?_set_self hh) ?_
        rcases List.mem_append.1 hm with hm | hm
        · exact List.mem_append_left _ hm
        · rcases List.mem_cons.1 hm with hm | hm
          · exact absurd hm hyx
          · exact List.mem_append_right _ hm
      · exact hfy k l (by rw [List.getElem?_set_ne (by omega)]; exact hk) hm
  · by_cases hkh : k = h
    · subst hkh
      rw [List.getElem?_set_self hh] at hk
      cases hk
      exact List.nodup_append.2 ⟨d1, d2.2, fun a ha b hb => d3 a ha b (List.mem_cons_of_mem _ hb)⟩
    · rw [List.getElem?_set_ne (by omega)] at hk
      exact R.nodup k l hk
/-- an empty field -/
theorem Ring.blank {F : Fd} {N H : Nat} (h1 : ∀ h, h < H → F.nx (N + h) = N + h ∧ F.pv (N + h) = N + h ∧ F.hd (N + h) = (h : Int)) (h2 : ∀ x, x < N → F.hd x = -1) : Ring F N (List.replicate H []) := by
  have he : ∀ (h : Nat) (l : List Nat), (List.replicate H ([] : List Nat))[h]? = some l → h < H ∧ l = [] := fun h l hl => by
    rw [List.getElem?_replicate] at hl
    split at hl
    · next hlt => cases hl; exact ⟨hlt, rfl⟩
    · cases hl
  refine ⟨fun h l hl => ?_, fun h hh => ?_, fun h l x hl hx => ?_, fun x hx _ => h2 x hx, fun h l hl => ?_⟩
  · obtain ⟨k1, rfl⟩ := he h l hl
    exact ⟨(h1 h k1).1, (h1 h k1).2.1⟩
  · rw [List.length_replicate] at hh
    exact (h1 h hh).2.2
  · obtain ⟨k1, rfl⟩ := he h l hl
    cases hx
  · obtain ⟨k1, rfl⟩ := he h l hl
    exact List.nodup_nil
end Go.Proofs.Ytjcabdnjimcdgaa.Lnk
