/-
  Links (layer 14): rings of nodes, no program.
-/
import Derived.Lib.Hide
import Derived.Test.YtggimkfepcgaoaaProg
import Derived.Test.YtggimkfepcgaoaaKit
import Derived.Laws.AppendOwn
import Derived.Laws.OwnMore
import Derived.BigRegion
import Derived.BigQuiet
import Derived.Carry
import Derived.Deep.QuietTactic
import Derived.Deep.RegionHeld3
set_option linter.unusedVariables false
set_option linter.unusedSimpArgs false
section
namespace Go.Proofs.Ytggimkfepcgaoaa.Lnk
/-- a node: those beside it, its list -/
structure Nd where
  p : Nat
  n : Nat
  h : Int
/-- a field, looked at as functions -/
structure Fd where
  pv : Nat → Nat
  nx : Nat → Nat
  hd : Nat → Int
/-- a chain from a to b over l -/
def Ch (F : Fd) : Nat → List Nat → Nat → Prop
  | a, [], b => F.nx a = b ∧ F.pv b = a
  | a, x :: l, b => F.nx a = x ∧ F.pv x = a ∧ Ch F x l b
theorem ch_split {F : Fd} : ∀ {a : Nat} {l1 : List Nat} {x : Nat} {l2 : List Nat} {b : Nat}, Ch F a (l1 ++ x :: l2) b ↔ Ch F a l1 x ∧ Ch F x l2 b
  | a, [], x, l2, b => by simp [Ch, and_assoc]
  | a, y :: l1, x, l2, b => by
    simp only [List.cons_append, Ch]
    rw [ch_split]
    simp [and_assoc]
/-- the last of a :: l -/
def lst : Nat → List Nat → Nat
  | a, [] => a
  | _, x :: l => lst x l
theorem lst_append (a : Nat) : ∀ (l1 : List Nat) (x : Nat) (l2 : List Nat), lst a (l1 ++ x :: l2) = lst x l2 := by
  intro l1
  induction l1 generalizing a with
  | nil => intro x l2; rfl
  | cons y l1 ih => intro x l2; exact ih y x l2
theorem lst_mem : ∀ {a : Nat} {l : List Nat}, lst a l = a ∨ lst a l ∈ l
  | a, [] => .inl rfl
  | a, x :: l => by
    rcases lst_mem (a := x) (l := l) with h | h
    · right; unfold lst; rw [h]; simp
    · right; unfold lst; exact List.mem_cons_of_mem _ h
/-- the first of l ++ [b] -/
def fst : List Nat → Nat → Nat
  | [], b => b
  | x :: _, _ => x
theorem Ch.first {F : Fd} {a b : Nat} {l : List Nat} (h : Ch F a l b) : F.nx a = fst l b := by
  cases l with
  | nil => exact h.1
  | cons x l => exact h.1
theorem Ch.last {F : Fd} : ∀ {a : Nat} {l : List Nat} {b : Nat}, Ch F a l b → F.pv b = lst a l
  | a, [], b, h => h.2
  | a, x :: l, b, h => Ch.last (a := x) (l := l) h.2.2
theorem Ch.nextLast {F : Fd} : ∀ {a : Nat} {l : List Nat} {b : Nat}, Ch F a l b → F.nx (lst a l) = b
  | a, [], b, h => h.1
  | a, x :: l, b, h => Ch.nextLast (a := x) (l := l) h.2.2
theorem Ch.prevFirst {F : Fd} {a b : Nat} {l : List Nat} (h : Ch F a l b) : F.pv (fst l b) = a := by
  cases l with
  | nil => exact h.2
  | cons x l => exact h.2.1
/-- a chain is kept where its links are kept -/
theorem Ch.of {F G : Fd} : ∀ {a : Nat} {l : List Nat} {b : Nat}, Ch F a l b → (∀ x, x = a ∨ x ∈ l → G.nx x = F.nx x) → (∀ x, x = b ∨ x ∈ l → G.pv x = F.pv x) → Ch G a l b
  | a, [], b, h, hn, hp => ⟨(hn a (.inl rfl)).trans h.1, (hp b (.inl rfl)).trans h.2⟩
  | a, x :: l, b, h, hn, hp => ⟨(hn a (.inl rfl)).trans h.1, (hp x (.inr (by simp))).trans h.2.1, Ch.of h.2.2 (fun y hy => hn y (.inr (by rcases hy with rfl | hy <;> simp_all))) (fun y hy => hp y (by rcases hy with rfl | hy; exact .inl rfl; exact .inr (List.mem_cons_of_mem _ hy)))⟩
/-- the end of a chain is put elsewhere -/
theorem Ch.relink {F G : Fd} {c : Nat} : ∀ {a : Nat} {l : List Nat} {b : Nat}, Ch F a l b → (a :: l).Nodup → (∀ x, x = a ∨ x ∈ l → x ≠ lst a l → G.nx x = F.nx x) → G.nx (lst a l) = c → (∀ x, x ∈ l → G.pv x = F.pv x) → G.pv c = lst a l → Ch G a l c
  | a, [], b, h, hd, hn, h1, hp, h2 => ⟨h1, h2⟩
  | a, x :: l, b, h, hd, hn, h1, hp, h2 => by
    rw [List.nodup_cons] at hd
    have hne : a ≠ lst a (x :: l) := by
      intro he
      rcases lst_mem (a := x) (l := l) with h3 | h3
      · exact hd.1 (by rw [he]; show lst x l ∈ _; rw [h3]; simp)
      · exact hd.1 (by rw [he]; exact List.mem_cons_of_mem _ h3)
    refine ⟨(hn a (.inl rfl) hne).trans h.1, (hp x (by simp)).trans h.2.1, Ch.relink h.2.2 hd.2 (fun y hy hye => hn y (.inr (by rcases hy with rfl | hy <;> simp_all)) hye) h1 (fun y hy => hp y (List.mem_cons_of_mem _ hy)) h2⟩
/-- the lists of a field -/
structure Ring (F : Fd) (N : Nat) (Ls : List (List Nat)) : Prop where
  ch : ∀ (h : Nat) (l : List Nat), Ls[h]? = some l → Ch F (N + h) l (N + h)
  root : ∀ h, h < Ls.length → F.hd (N + h) = (h : Int)
  mem : ∀ (h : Nat) (l : List Nat) (x : Nat), Ls[h]? = some l → x ∈ l → x < N ∧ F.hd x = (h : Int)
  out : ∀ x, x < N → (∀ (h : Nat) (l : List Nat), Ls[h]? = some l → x ∉ l) → F.hd x = -1
  nodup : ∀ (h : Nat) (l : List Nat), Ls[h]? = some l → l.Nodup
theorem Ring.uni {F : Fd} {N : Nat} {Ls : List (List Nat)} (R : Ring F N Ls) {h k x : Nat} {l m : List Nat} (h1 : Ls[h]? = some l) (h2 : Ls[k]? = some m) (x1 : x ∈ l) (x2 : x ∈ m) : h = k := by
  have e1 := (R.mem h l x h1 x1).2
  have e2 := (R.mem k m x h2 x2).2
  rw [e1] at e2
  omega
/-- x is in no list -/
def Free (Ls : List (List Nat)) (x : Nat) : Prop := ∀ (h : Nat) (l : List Nat), Ls[h]? = some l → x ∉ l
theorem Ring.free_iff {F : Fd} {N : Nat} {Ls : List (List Nat)} (R : Ring F N Ls) {x : Nat} (hx : x < N) : F.hd x = -1 ↔ Free Ls x := by
  constructor
  · intro h k l hl hm
    have := (R.mem k l x hl hm).2
    omega
  · exact R.out x hx
theorem Ring.in_list {F : Fd} {N : Nat} {Ls : List (List Nat)} (R : Ring F N Ls) {x : Nat} (hx : x < N) (h : F.hd x ≠ -1) : ∃ (k : Nat) (l : List Nat), Ls[k]? = some l ∧ x ∈ l ∧ F.hd x = (k : Int) := by
  by_cases hf : Free Ls x
  · exact absurd (R.out x hx hf) h
  · have hex : ∃ (k : Nat) (l : List Nat), Ls[k]? = some l ∧ x ∈ l := Classical.byContradiction fun hc => hf fun k l hl hm => hc ⟨k, l, hl, hm⟩
    obtain ⟨k, l, hl, hm⟩ := hex
    exact ⟨k, l, hl, hm, (R.mem k l x hl hm).2⟩
/-- what link makes of a field -/
def linkF (F : Fd) (n o : Nat) : Fd where
  pv := fun x => if x = o then n else if x = n then F.pv o else F.pv x
  nx := fun x => if x = F.pv o then n else if x = n then o else F.nx x
  hd := fun x => if x = n then F.hd o else F.hd x
/-- list h is l1 ++ l2, n comes between them, o is the first of l2 or the root -/
theorem Ring.link {F : Fd} {N : Nat} {Ls : List (List Nat)} (R : Ring F N Ls) {h n : Nat} {l1 l2 : List Nat} (hl : Ls[h]? = some (l1 ++ l2)) (hn : n < N) (hf : Free Ls n) :
    Ring (linkF F n (fst l2 (N + h))) N (Ls.set h (l1 ++ n :: l2)) ∧ F.hd (fst l2 (N + h)) = (h : Int) := by
  have hh : h < Ls.length := (List.getElem?_eq_some_iff.1 hl).1
  have hc := R.ch h _ hl
  have hnd := R.nodup h _ hl
  have hmem := fun x hx => R.mem h _ x hl hx
  have hnl : n ∉ l1 ++ l2 := hf h _ hl
  obtain ⟨o, ho⟩ : ∃ o, fst l2 (N + h) = o := ⟨_, rfl⟩
  have hoh : F.hd o = (h : Int) := by
    rw [← ho]
    cases l2 with
    | nil => exact R.root h hh
    | cons y l2 => exact (hmem y (by simp)).2
  have hno : n ≠ o := by
    rw [← ho]
    cases l2 with
    | nil => show n ≠ N + h; omega
    | cons y l2 => intro he; exact hnl (by rw [he]; show y ∈ _; simp)
  -- the part before
  have h1 : Ch F (N + h) l1 o := by
    rw [← ho]
    cases l2 with
    | nil => simpa [fst] using hc
    | cons y l2 => exact (ch_split.1 hc).1
  have hp : F.pv o = lst (N + h) l1 := h1.last
  have hrl : (N + h) ∉ l1 ++ l2 := fun hm => by have := (hmem _ hm).1; omega
  have hnd1 : ((N + h) :: l1).Nodup := by
    rw [List.nodup_cons]
    exact ⟨fun hm => hrl (List.mem_append_left _ hm), (List.nodup_append.1 hnd).1⟩
  have hol1 : o ∉ l1 := by
    rw [← ho]
    cases l2 with
    | nil => exact fun hm => hrl (List.mem_append_left _ hm)
    | cons y l2 => exact fun hm => (List.nodup_append.1 hnd).2.2 y hm y (by simp) rfl
  have hlst : lst (N + h) l1 = N + h ∨ lst (N + h) l1 ∈ l1 := lst_mem
  have hln : lst (N + h) l1 ≠ n := by
    rcases hlst with h2 | h2
    · omega
    · exact fun he => hnl (by rw [← he]; exact List.mem_append_left _ h2)
  rw [ho]
  refine ⟨⟨fun k l hk => ?_, fun k hk => ?_, fun k l x hk hx => ?_, fun x hx hfx => ?_, fun k l hk => ?_⟩, hoh⟩
  · by_cases hkh : k = h
    · subst hkh
      rw [List.getElem?_set_self hh] at hk
      cases hk
      refine ch_split.2 ⟨?_, ?_⟩
      · refine Ch.relink h1 hnd1 (fun x hx hxl => ?_) ?_ (fun x hx => ?_) ?_
        · show (if x = F.pv o then n else if x = n then o else F.nx x) = _
          rw [if_neg (by rw [hp]; exact hxl), if_neg]
          rcases hx with rfl | hx
          · omega
          · exact fun he => hnl (by rw [← he]; exact List.mem_append_left _ hx)
        · show (if lst (N + k) l1 = F.pv o then n else _) = _
          rw [if_pos hp.symm]
        · show (if x = o then n else if x = n then F.pv o else F.pv x) = _
          rw [if_neg (fun he => hol1 (by rw [← he]; exact hx)), if_neg (fun he => hnl (by rw [← he]; exact List.mem_append_left _ hx))]
        · show (if n = o then n else if n = n then F.pv o else F.pv n) = _
          rw [if_neg hno, if_pos rfl, hp]
      · -- from n on
        have e1 : (linkF F n o).nx n = o := by
          show (if n = F.pv o then n else if n = n then o else F.nx n) = _
          rw [if_neg (by rw [hp]; exact hln.symm), if_pos rfl]
        have e2 : (linkF F n o).pv o = n := by
          show (if o = o then n else _) = _
          rw [if_pos rfl]
        cases l2 with
        | nil =>
          have : o = N + k := ho.symm
          subst this
          exact ⟨e1, e2⟩
        | cons y l2 =>
          have : o = y := ho.symm
          subst this
          refine ⟨e1, e2, (ch_split.1 hc).2.of (fun x hx => ?_) (fun x hx => ?_)⟩
          · show (if x = F.pv o then n else if x = n then o else F.nx x) = _
            have hx2 : x ∈ o :: l2 := by rcases hx with rfl | hx <;> simp_all
            rw [if_neg, if_neg (fun he => hnl (by rw [← he]; exact List.mem_append_right _ hx2))]
            intro he
            rw [hp] at he
            rcases hlst with h2 | h2
            · exact hrl (by rw [← h2, ← he]; exact List.mem_append_right _ hx2)
            · exact (List.nodup_append.1 hnd).2.2 _ h2 x hx2 he.symm
          · show (if x = o then n else if x = n then F.pv o else F.pv x) = _
            have hd2 := (List.nodup_append.1 hnd).2.1
            rw [List.nodup_cons] at hd2
            rcases hx with rfl | hx
            · rw [if_neg (fun he => hrl (by rw [he]; simp)), if_neg (by omega)]
            · rw [if_neg (fun he => hd2.1 (by rw [← he]; exact hx)), if_neg (fun he => hnl (by rw [← he]; simp [hx]))]
    · rw [List.getElem?_set_ne (by omega)] at hk
      have hk2 := R.ch k l hk
      have hrk : k < Ls.length := (List.getElem?_eq_some_iff.1 hk).1
      have hok : o ≠ N + k ∧ o ∉ l := by
        constructor
        · intro he
          have := R.root k hrk
          rw [← he, hoh] at this
          omega
        · intro hm
          have := (R.mem k l o hk hm).2
          rw [hoh] at this
          omega
      have hpk : F.pv o ≠ N + k ∧ F.pv o ∉ l := by
        rw [hp]
        rcases hlst with h2 | h2
        · rw [h2]
          refine ⟨by omega, fun hm => ?_⟩
          have := (R.mem k l _ hk hm).1
          omega
        · have h3 := hmem _ (List.mem_append_left l2 h2)
          refine ⟨by omega, fun hm => ?_⟩
          have := (R.mem k l _ hk hm).2
          rw [h3.2] at this
          omega
      have hnk : n ∉ l := hf k l hk
      refine hk2.of (fun x hx => ?_) (fun x hx => ?_)
      · show (if x = F.pv o then n else if x = n then o else F.nx x) = _
        rcases hx with rfl | hx
        · rw [if_neg (Ne.symm hpk.1), if_neg (by omega)]
        · rw [if_neg (fun he => hpk.2 (by rw [← he]; exact hx)), if_neg (fun he => hnk (by rw [← he]; exact hx))]
      · show (if x = o then n else if x = n then F.pv o else F.pv x) = _
        rcases hx with rfl | hx
        · rw [if_neg (Ne.symm hok.1), if_neg (by omega)]
        · rw [if_neg (fun he => hok.2 (by rw [← he]; exact hx)), if_neg (fun he => hnk (by rw [← he]; exact hx))]
  · rw [List.length_set] at hk
    show (if N + k = n then F.hd o else F.hd (N + k)) = _
    rw [if_neg (by omega)]
    exact R.root k hk
  · show x < N ∧ (if x = n then F.hd o else F.hd x) = _
    by_cases hkh : k = h
    · subst hkh
      rw [List.getElem?_set_self hh] at hk
      cases hk
      by_cases hxn : x = n
      · subst hxn
        rw [if_pos rfl]
        exact ⟨hn, hoh⟩
      · rw [if_neg hxn]
        refine hmem x ?_
        simp only [List.mem_append, List.mem_cons] at hx ⊢
        rcases hx with hx | hx | hx
        · exact .inl hx
        · exact absurd hx hxn
        · exact .inr hx
    · rw [List.getElem?_set_ne (by omega)] at hk
      rw [if_neg (fun he => hf k l hk (by rw [← he]; exact hx))]
      exact R.mem k l x hk hx
  · show (if x = n then F.hd o else F.hd x) = _
    have hxn : x ≠ n := by
      intro he
      subst he
      exact hfx h _ (List.getElem?_set_self hh) (by simp)
    rw [if_neg hxn]
    refine R.out x hx fun k l hk hm => ?_
    by_cases hkh : k = h
    · subst hkh
      rw [hl] at hk
      cases hk
      refine hfx k _ (List.getElem?_set_self hh) ?_
      simp only [List.mem_append, List.mem_cons] at hm ⊢
      rcases hm with hm | hm
      · exact .inl hm
      · exact .inr (.inr hm)
    · exact hfx k l (by rw [List.getElem?_set_ne (by omega)]; exact hk) hm
  · by_cases hkh : k = h
    · subst hkh
      rw [List.getElem?_set_self hh] at hk
      cases hk
      rw [List.nodup_append]
      obtain ⟨d1, d2, d3⟩ := List.nodup_append.1 hnd
      refine ⟨d1, List.nodup_cons.2 ⟨fun hm => hnl (List.mem_append_right _ hm), d2⟩, fun x hx y hy => ?_⟩
      rcases List.mem_cons.1 hy with rfl | hy
      · exact fun he => hnl (by rw [← he]; exact List.mem_append_left _ hx)
      · exact d3 x hx y hy
    · rw [List.getElem?_set_ne (by omega)] at hk
      exact R.nodup k l hk
/-- what Remove makes of a field -/
def unlinkF (F : Fd) (x : Nat) : Fd where
  pv := fun y => if y = F.nx x then F.pv x else F.pv y
  nx := fun y => if y = F.pv x then F.nx x else F.nx y
  hd := fun y => if y = x then -1 else F.hd y
theorem Ring.parts {F : Fd} {N : Nat} {Ls : List (List Nat)} (R : Ring F N Ls) {h x : Nat} {l1 l2 : List Nat} (hl : Ls[h]? = some (l1 ++ x :: l2)) : Ch F (N + h) l1 x ∧ Ch F x l2 (N + h) ∧ F.pv x = lst (N + h) l1 ∧ F.nx x = fst l2 (N + h) := by
  have hc := ch_split.1 (R.ch h _ hl)
  exact ⟨hc.1, hc.2, hc.1.last, hc.2.first⟩
theorem Ring.unlink {F : Fd} {N : Nat} {Ls : List (List Nat)} (R : Ring F N Ls) {h x : Nat} {l1 l2 : List Nat} (hl : Ls[h]? = some (l1 ++ x :: l2)) : Ring (unlinkF F x) N (Ls.set h (l1 ++ l2)) := by
  have hh : h < Ls.length := (List.getElem?_eq_some_iff.1 hl).1
  have hnd := R.nodup h _ hl
  have hmem := fun y hy => R.mem h _ y hl hy
  obtain ⟨h1, h2, hp, hs⟩ := R.parts hl
  have hx := hmem x (by simp)
  have hrl : (N + h) ∉ l1 ++ x :: l2 := fun hm => by have := (hmem _ hm).1; omega
  obtain ⟨d1, d2, d3⟩ := List.nodup_append.1 hnd
  rw [List.nodup_cons] at d2
  have hx1 : x ∉ l1 := fun hm => d3 x hm x (by simp) rfl
  have hlst : lst (N + h) l1 = N + h ∨ lst (N + h) l1 ∈ l1 := lst_mem
  have hfst : fst l2 (N + h) = N + h ∨ fst l2 (N + h) ∈ l2 := by cases l2 with | nil => exact .inl rfl | cons y l2 => exact .inr (by simp [fst])
  have hnd1 : ((N + h) :: l1).Nodup := by
    rw [List.nodup_cons]
    exact ⟨fun hm => hrl (List.mem_append_left _ hm), d1⟩
  -- l1 up to the successor of x
  have key : Ch (unlinkF F x) (N + h) l1 (fst l2 (N + h)) := by
    refine Ch.relink h1 hnd1 (fun y hy hyl => ?_) ?_ (fun y hy => ?_) ?_
    · show (if y = F.pv x then F.nx x else F.nx y) = _
      rw [if_neg (by rw [hp]; exact hyl)]
    · show (if lst (N + h) l1 = F.pv x then F.nx x else _) = _
      rw [if_pos hp.symm, hs]
    · show (if y = F.nx x then F.pv x else F.pv y) = _
      rw [if_neg]
      rw [hs]
      intro he
      rcases hfst with h3 | h3
      · exact hrl (by rw [← h3, ← he]; exact List.mem_append_left _ hy)
      · exact d3 y hy y (by rw [he]; exact List.mem_cons_of_mem _ h3) rfl
    · show (if fst l2 (N + h) = F.nx x then F.pv x else _) = _
      rw [if_pos hs.symm, hp]
  refine ⟨fun k l hk => ?_, fun k hk => ?_, fun k l y hk hy => ?_, fun y hy hfy => ?_, fun k l hk => ?_⟩
  · by_cases hkh : k = h
    · subst hkh
      rw [List.getElem?_set_self hh] at hk
      cases hk
      cases l2 with
      | nil => simpa [fst] using key
      | cons y l2 =>
        refine ch_split.2 ⟨key, h2.2.2.of (fun z hz => ?_) (fun z hz => ?_)⟩
        · show (if z = F.pv x then F.nx x else F.nx z) = _
          have hz2 : z ∈ y :: l2 := by rcases hz with rfl | hz <;> simp_all
          rw [if_neg]
          rw [hp]
          intro he
          rcases hlst with h3 | h3
          · exact hrl (by rw [← h3, ← he]; exact List.mem_append_right _ (List.mem_cons_of_mem _ hz2))
          · exact d3 _ h3 z (List.mem_cons_of_mem _ hz2) he.symm
        · show (if z = F.nx x then F.pv x else F.pv z) = _
          have hsy : F.nx x = y := hs
          rw [if_neg]
          rw [hsy]
          intro he
          rcases hz with rfl | hz
          · exact hrl (by rw [he]; simp)
          · have := d2.2
            rw [List.nodup_cons] at this
            exact this.1 (by rw [← he]; exact hz)
    · rw [List.getElem?_set_ne (by omega)] at hk
      have hk2 := R.ch k l hk
      have hrk : k < Ls.length := (List.getElem?_eq_some_iff.1 hk).1
      have far : ∀ y, (y = N + h ∨ y ∈ l1 ++ x :: l2) → y ≠ N + k ∧ y ∉ l := by
        intro y hy
        rcases hy with rfl | hy
        · refine ⟨by omega, fun hm => ?_⟩
          have := (R.mem k l _ hk hm).1
          omega
        · have h3 := hmem y hy
          refine ⟨by omega, fun hm => ?_⟩
          have := (R.mem k l y hk hm).2
          rw [h3.2] at this
          omega
      have fp := far (F.pv x) (by rw [hp]; rcases hlst with h3 | h3; exact .inl h3; exact .inr (List.mem_append_left _ h3))
      have fs := far (F.nx x) (by rw [hs]; rcases hfst with h3 | h3; exact .inl h3; exact .inr (List.mem_append_right _ (List.mem_cons_of_mem _ h3)))
      refine hk2.of (fun y hy => ?_) (fun y hy => ?_)
      · show (if y = F.pv x then F.nx x else F.nx y) = _
        rcases hy with rfl | hy
        · rw [if_neg (Ne.symm fp.1)]
        · rw [if_neg (fun he => fp.2 (by rw [← he]; exact hy))]
      · show (if y = F.nx x then F.pv x else F.pv y) = _
        rcases hy with rfl | hy
        · rw [if_neg (Ne.symm fs.1)]
        · rw [if_neg (fun he => fs.2 (by rw [← he]; exact hy))]
  · rw [List.length_set] at hk
    show (if N + k = x then -1 else F.hd (N + k)) = _
    rw [if_neg (by omega)]
    exact R.root k hk
  · show y < N ∧ (if y = x then -1 else F.hd y) = _
    by_cases hkh : k = h
    · subst hkh
      rw [List.getElem?_set_self hh] at hk
      cases hk
      have hyx : y ≠ x := by
        rintro rfl
        rcases List.mem_append.1 hy with hm | hm
        · exact hx1 hm
        · exact d2.1 hm
      rw [if_neg hyx]
      refine hmem y ?_
      rcases List.mem_append.1 hy with hm | hm
      · exact List.mem_append_left _ hm
      · exact List.mem_append_right _ (List.mem_cons_of_mem _ hm)
    · rw [List.getElem?_set_ne (by omega)] at hk
      have h3 := R.mem k l y hk hy
      rw [if_neg (fun he => by rw [he, hx.2] at h3; omega)]
      exact h3
  · show (if y = x then -1 else F.hd y) = _
    by_cases hyx : y = x
    · rw [if_pos hyx]
    · rw [if_neg hyx]
      refine R.out y hy fun k l hk hm => ?_
      by_cases hkh : k = h
      · subst hkh
        rw [hl] at hk
        cases hk
        refine hfy k _ (List.getElem?_set_self hh) ?_
        rcases List.mem_append.1 hm with hm | hm
        · exact List.mem_append_left _ hm
        · rcases List.mem_cons.1 hm with hm | hm
          · exact absurd hm hyx
          · exact List.mem_append_right _ hm
      · exact hfy k l (by rw [List.getElem?_set_ne (by omega)]; exact hk) hm
  · by_cases hkh : k = h
    · subst hkh
      rw [List.getElem?_set_self hh] at hk
      cases hk
      exact List.nodup_append.2 ⟨d1, d2.2, fun a ha b hb => d3 a ha b (List.mem_cons_of_mem _ hb)⟩
    · rw [List.getElem?_set_ne (by omega)] at hk
      exact R.nodup k l hk
/-- an empty field -/
theorem Ring.blank {F : Fd} {N H : Nat} (h1 : ∀ h, h < H → F.nx (N + h) = N + h ∧ F.pv (N + h) = N + h ∧ F.hd (N + h) = (h : Int)) (h2 : ∀ x, x < N → F.hd x = -1) : Ring F N (List.replicate H []) := by
  have he : ∀ (h : Nat) (l : List Nat), (List.replicate H ([] : List Nat))[h]? = some l → h < H ∧ l = [] := fun h l hl => by
    rw [List.getElem?_replicate] at hl
    split at hl
    · next hlt => cases hl; exact ⟨hlt, rfl⟩
    · cases hl
  refine ⟨fun h l hl => ?_, fun h hh => ?_, fun h l x hl hx => ?_, fun x hx _ => h2 x hx, fun h l hl => ?_⟩
  · obtain ⟨k1, rfl⟩ := he h l hl
    exact ⟨(h1 h k1).1, (h1 h k1).2.1⟩
  · rw [List.length_replicate] at hh
    exact (h1 h hh).2.2
  · obtain ⟨k1, rfl⟩ := he h l hl
    cases hx
  · obtain ⟨k1, rfl⟩ := he h l hl
    exact List.nodup_nil
end Go.Proofs.Ytggimkfepcgaoaa.Lnk
end
section
namespace Go.Proofs.Ytggimkfepcgaoaa.Lnk
open Go Go.RowKit Kit
/-- all blocks but the bad ones are kept -/
structure Kp (bad : Nat → Prop) (w w' : World) : Prop where
  os : w'.os = w.os
  tape : w'.tape = w.tape
  output : w'.output = w.output
  size : w.heap.size ≤ w'.heap.size
  block : ∀ k, k < w.heap.size → ¬ bad k → w'.heap[k]? = w.heap[k]?
theorem Kp.refl (bad : Nat → Prop) (w : World) : Kp bad w w := ⟨rfl, rfl, rfl, Nat.le_refl _, fun _ _ _ => rfl⟩
theorem Kp.trans {bad : Nat → Prop} {x y z : World} (h : Kp bad x y) (k : Kp bad y z) : Kp bad x z :=
  ⟨k.os.trans h.os, k.tape.trans h.tape, k.output.trans h.output, Nat.le_trans h.size k.size, fun b hb hne => (k.block b (Nat.lt_of_lt_of_le hb h.size) hne).trans (h.block b hb hne)⟩
theorem Kp.of {bad : Nat → Prop} {w w' : World} (h : Below w.heap.size w w') : Kp bad w w' := ⟨h.os, h.tape, h.output, h.size, fun k hk _ => h.block k hk⟩
theorem Kp.tr {bad : Nat → Prop} {x y z : World} (h : Kp bad x y) (k : Below y.heap.size y z) : Kp bad x z := h.trans (Kp.of k)
theorem Kp.mono {bad bad' : Nat → Prop} {w w' : World} (h : Kp bad w w') (hb : ∀ k, k < w.heap.size → bad k → bad' k) : Kp bad' w w' := ⟨h.os, h.tape, h.output, h.size, fun k hk hn => h.block k hk fun h2 => hn (hb k hk h2)⟩
theorem Kp.setCell {bad : Nat → Prop} {b j : Nat} {w w' : World} (h : Kp bad w w') (hb : bad b ∨ w.heap.size ≤ b) (v : Value) : Kp bad w (w'.setCell ⟨b, j, none⟩ v) := by
  refine ⟨h.os, h.tape, h.output, by simpa using h.size, fun k hk hne => ?_⟩
  rw [Below.heap_setCell _ _ _ k (by show k ≠ b; rintro rfl; rcases hb with h1 | h1; exact hne h1; omega)]
  exact h.block k hk hne
theorem Kp.below {bad : Nat → Prop} {n : Nat} {w w' : World} (h : Kp bad w w') (hb : ∀ k, k < n → ¬ bad k) (hn : n ≤ w.heap.size) : Below n w w' :=
  ⟨h.os, h.tape, h.output, h.size, fun k hk => h.block k (by omega) (hb k hk)⟩
theorem heap_set {W : World} {q j : Nat} {cs : Array Value} {t : TypeId} (hh : W.heap[q]? = some (.cells cs t (0, 0))) (u : Value) : (W.setCell ⟨q, j, none⟩ u).heap[q]? = some (.cells (cs.setIfInBounds j u) t (0, 0)) := by
  obtain ⟨hlt, hk⟩ := Array.getElem?_eq_some_iff.1 hh
  show (W.heap.modify q _)[q]? = _
  rw [Array.getElem?_eq_getElem (by rw [Array.size_modify]; exact hlt), Array.getElem_modify_self, hk]
  simp
def Fd.upP (F : Fd) (i a : Nat) : Fd := ⟨fun x => if x = i then a else F.pv x, F.nx, F.hd⟩
def Fd.upN (F : Fd) (i a : Nat) : Fd := ⟨F.pv, fun x => if x = i then a else F.nx x, F.hd⟩
def Fd.upH (F : Fd) (i : Nat) (a : Int) : Fd := ⟨F.pv, F.nx, fun x => if x = i then a else F.hd x⟩
/-- the row of nodes -/
def Fw (w : World) (q M : Nat) (F : Fd) : Prop := ∃ cur, w.heap[q]? = some (.cells cur 129 (0, 0)) ∧ ∀ i, i < M → cur[i * 3]? = some (.int .u32 (F.pv i : Int)) ∧ cur[i * 3 + 1]? = some (.int .u32 (F.nx i : Int)) ∧ cur[i * 3 + 2]? = some (.int .i32 (F.hd i))
theorem Fw.lt {w : World} {q M : Nat} {F : Fd} (h : Fw w q M F) : q < w.heap.size := by
  obtain ⟨cur, h1, -⟩ := h
  exact (Array.getElem?_eq_some_iff.1 h1).1
theorem Fw.of {w w' : World} {q M : Nat} {F : Fd} (h : Fw w q M F) (hb : w'.heap[q]? = w.heap[q]?) : Fw w' q M F := by
  obtain ⟨cur, h1, h2⟩ := h
  exact ⟨cur, hb.trans h1, h2⟩
theorem Fw.at_ {w : World} {q M : Nat} {F : Fd} (h : Fw w q M F) {i : Nat} (hi : i < M) : w.cell? ⟨q, i * 3, none⟩ = some (.int .u32 (F.pv i : Int)) ∧ w.cell? ⟨q, i * 3 + 1, none⟩ = some (.int .u32 (F.nx i : Int)) ∧ w.cell? ⟨q, i * 3 + 2, none⟩ = some (.int .i32 (F.hd i)) := by
  obtain ⟨cur, h1, h2⟩ := h
  obtain ⟨e1, e2, e3⟩ := h2 i hi
  exact ⟨by simp [World.cell?, h1, e1], by simp [World.cell?, h1, e2], by simp [World.cell?, h1, e3]⟩
theorem Fw.frozen {w : World} {q M : Nat} {F : Fd} (h : Fw w q M F) (j : Nat) : w.frozen? ⟨q, j, none⟩ = false := by
  obtain ⟨cur, h1, h2⟩ := h
  simp [World.frozen?, h1]
theorem get_set {cs : Array Value} {k j : Nat} {u v x : Value} (h : cs[k]? = some u) (hv : v = if k = j then x else u) : (cs.setIfInBounds j x)[k]? = some v := by
  have hlt := (Array.getElem?_eq_some_iff.1 h).1
  rw [Array.getElem?_setIfInBounds]
  by_cases hjk : j = k
  · subst hjk
    rw [if_pos rfl, if_pos hlt, hv, if_pos rfl]
  · rw [if_neg hjk, h, hv, if_neg (Ne.symm hjk)]
theorem Fw.setP {w : World} {q M : Nat} {F : Fd} (h : Fw w q M F) (i a : Nat) : Fw (w.setCell ⟨q, i * 3, none⟩ (.int .u32 (a : Int))) q M (F.upP i a) := by
  obtain ⟨cur, h1, h2⟩ := h
  refine ⟨_, heap_set h1 _, fun k hk => ?_⟩
  obtain ⟨e1, e2, e3⟩ := h2 k hk
  refine ⟨get_set e1 ?_, get_set e2 ?_, get_set e3 ?_⟩
  · unfold Fd.upP
    by_cases hki : k = i
    · simp [hki]
    · have : ¬ k * 3 = i * 3 := by omega
      simp only [if_neg hki]
      rw [if_neg this]
  · have : ¬ k * 3 + 1 = i * 3 := by omega
    rw [if_neg this]
    rfl
  · have : ¬ k * 3 + 2 = i * 3 := by omega
    rw [if_neg this]
    rfl
theorem Fw.setN {w : World} {q M : Nat} {F : Fd} (h : Fw w q M F) (i a : Nat) : Fw (w.setCell ⟨q, i * 3 + 1, none⟩ (.int .u32 (a : Int))) q M (F.upN i a) := by
  obtain ⟨cur, h1, h2⟩ := h
  refine ⟨_, heap_set h1 _, fun k hk => ?_⟩
  obtain ⟨e1, e2, e3⟩ := h2 k hk
  refine ⟨get_set e1 ?_, get_set e2 ?_, get_set e3 ?_⟩
  · have : ¬ k * 3 = i * 3 + 1 := by omega
    rw [if_neg this]
    rfl
  · unfold Fd.upN
    by_cases hki : k = i
    · simp [hki]
    · have : ¬ k * 3 + 1 = i * 3 + 1 := by omega
      simp only [if_neg hki]
      rw [if_neg this]
  · have : ¬ k * 3 + 2 = i * 3 + 1 := by omega
    rw [if_neg this]
    rfl
theorem Fw.setH {w : World} {q M : Nat} {F : Fd} (h : Fw w q M F) (i : Nat) (a : Int) : Fw (w.setCell ⟨q, i * 3 + 2, none⟩ (.int .i32 a)) q M (F.upH i a) := by
  obtain ⟨cur, h1, h2⟩ := h
  refine ⟨_, heap_set h1 _, fun k hk => ?_⟩
  obtain ⟨e1, e2, e3⟩ := h2 k hk
  refine ⟨get_set e1 ?_, get_set e2 ?_, get_set e3 ?_⟩
  · have : ¬ k * 3 = i * 3 + 2 := by omega
    rw [if_neg this]
    rfl
  · have : ¬ k * 3 + 1 = i * 3 + 2 := by omega
    rw [if_neg this]
    rfl
  · unfold Fd.upH
    by_cases hki : k = i
    · simp [hki]
    · have : ¬ k * 3 + 2 = i * 3 + 2 := by omega
      simp only [if_neg hki]
      rw [if_neg this]
/-- the row of lengths -/
def Lw (w : World) (r : Nat) (Ls : List (List Nat)) : Prop := ∃ cur, w.heap[r]? = some (.cells cur 3 (0, 0)) ∧ ∀ (h : Nat) (l : List Nat), Ls[h]? = some l → cur[h]? = some (.int .i64 (l.length : Int))
theorem Lw.lt {w : World} {r : Nat} {Ls : List (List Nat)} (h : Lw w r Ls) : r < w.heap.size := by
  obtain ⟨cur, h1, -⟩ := h
  exact (Array.getElem?_eq_some_iff.1 h1).1
theorem Lw.of {w w' : World} {r : Nat} {Ls : List (List Nat)} (h : Lw w r Ls) (hb : w'.heap[r]? = w.heap[r]?) : Lw w' r Ls := by
  obtain ⟨cur, h1, h2⟩ := h
  exact ⟨cur, hb.trans h1, h2⟩
theorem Lw.at_ {w : World} {r : Nat} {Ls : List (List Nat)} (H : Lw w r Ls) {h : Nat} {l : List Nat} (hl : Ls[h]? = some l) : w.cell? ⟨r, h, none⟩ = some (.int .i64 (l.length : Int)) ∧ w.frozen? ⟨r, h, none⟩ = false := by
  obtain ⟨cur, h1, h2⟩ := H
  have e1 := h2 h l hl
  exact ⟨by simp [World.cell?, h1, e1], by simp [World.frozen?, h1]⟩
theorem Lw.set {w : World} {r : Nat} {Ls : List (List Nat)} (H : Lw w r Ls) {h : Nat} {l : List Nat} : Lw (w.setCell ⟨r, h, none⟩ (.int .i64 (l.length : Int))) r (Ls.set h l) := by
  obtain ⟨cur, h1, h2⟩ := H
  refine ⟨_, heap_set h1 _, fun k m hk => ?_⟩
  by_cases hkh : k = h
  · subst hkh
    have hlt : k < Ls.length := by
      have := (List.getElem?_eq_some_iff.1 hk).1
      rwa [List.length_set] at this
    rw [List.getElem?_set_self hlt] at hk
    cases hk
    exact get_set (h2 k _ (List.getElem?_eq_getElem hlt)) (by simp)
  · rw [List.getElem?_set_ne (by omega)] at hk
    exact get_set (h2 k m hk) (by simp [hkh])
/-- the object -/
structure Lo (w : World) (c q r cq cr N : Nat) (F : Fd) (Ls : List (List Nat)) : Prop where
  obj : w.heap[c]? = some (.cells #[.int .i64 (N : Int), .slice (some ⟨q, 0, none⟩) (N + Ls.length) cq, .slice (some ⟨r, 0, none⟩) Ls.length cr] 127 (0, 0))
  fw : Fw w q (N + Ls.length) F
  lw : Lw w r Ls
  ring : Ring F N Ls
  cq : c ≠ q
  cr : c ≠ r
  qr : q ≠ r
  n1 : 1 ≤ N
  n2 : N ≤ 4194304
  h1 : 1 ≤ Ls.length
  h2 : Ls.length ≤ 4096
/-- blocks of an object -/
def Ob (c q r : Nat) : Nat → Prop := fun k => k = c ∨ k = q ∨ k = r
theorem Lo.lt {w : World} {c q r cq cr N : Nat} {F : Fd} {Ls : List (List Nat)} (h : Lo w c q r cq cr N F Ls) : c < w.heap.size ∧ q < w.heap.size ∧ r < w.heap.size := ⟨(Array.getElem?_eq_some_iff.1 h.obj).1, h.fw.lt, h.lw.lt⟩
theorem Lo.of {w w' : World} {c q r cq cr N : Nat} {F : Fd} {Ls : List (List Nat)} (h : Lo w c q r cq cr N F Ls) (hb : ∀ k, Ob c q r k → w'.heap[k]? = w.heap[k]?) : Lo w' c q r cq cr N F Ls :=
  ⟨(hb c (.inl rfl)).trans h.obj, h.fw.of (hb q (.inr (.inl rfl))), h.lw.of (hb r (.inr (.inr rfl))), h.ring, h.cq, h.cr, h.qr, h.n1, h.n2, h.h1, h.h2⟩
theorem Lo.below {w w' : World} {c q r cq cr N : Nat} {F : Fd} {Ls : List (List Nat)} (h : Lo w c q r cq cr N F Ls) (hb : Below w.heap.size w w') : Lo w' c q r cq cr N F Ls :=
  h.of fun k hk => hb.block k (by have := h.lt; rcases hk with rfl | rfl | rfl; exact this.1; exact this.2.1; exact this.2.2)
theorem Lo.kp {w w' : World} {c q r cq cr N : Nat} {F : Fd} {Ls : List (List Nat)} {bad : Nat → Prop} (h : Lo w c q r cq cr N F Ls) (hk : Kp bad w w') (hb : ∀ k, Ob c q r k → ¬ bad k) : Lo w' c q r cq cr N F Ls :=
  h.of fun k hk2 => hk.block k (by have := h.lt; rcases hk2 with rfl | rfl | rfl; exact this.1; exact this.2.1; exact this.2.2) (hb k hk2)
theorem Lo.cells {w : World} {c q r cq cr N : Nat} {F : Fd} {Ls : List (List Nat)} (h : Lo w c q r cq cr N F Ls) : w.cell? ⟨c, 0, none⟩ = some (.int .i64 (N : Int)) ∧ w.cell? ⟨c, 1, none⟩ = some (.slice (some ⟨q, 0, none⟩) (N + Ls.length) cq) ∧ w.cell? ⟨c, 2, none⟩ = some (.slice (some ⟨r, 0, none⟩) Ls.length cr) := by
  have h1 := h.obj
  exact ⟨by simp [World.cell?, h1], by simp [World.cell?, h1], by simp [World.cell?, h1]⟩
set_option maxRecDepth 100000 in
theorem isZero_any {w : World} {c q r cq cr N : Nat} {F : Fd} {Ls : List (List Nat)} (H : Lo w c q r cq cr N F Ls) :
    Calls Try.prog 135 #[.pointer (some ⟨c, 0, none⟩)] w fun e w' => e = .returned (.bool false) ∧ w = w' := by
  obtain ⟨k0, k1, k2⟩ := H.cells
  have n1 := H.n1
  have hn : ((N : Int) == 0) = false := by rw [beq_eq_false_iff_ne]; omega
  clear H
  go_enter Try.func135, Try.ntmps135
  go_wp2
  go_ret
  exact ⟨rfl, rfl⟩
set_option maxRecDepth 100000 in
theorem root_any {w : World} {c q r cq cr N : Nat} {F : Fd} {Ls : List (List Nat)} (H : Lo w c q r cq cr N F Ls) {h : Nat} (hh : h < Ls.length) :
    Calls Try.prog 134 #[.pointer (some ⟨c, 0, none⟩), .int .i64 (h : Int)] w fun e w' => e = .returned (.int .u32 ((N + h : Nat) : Int)) ∧ w = w' := by
  obtain ⟨k0, k1, k2⟩ := H.cells
  have n1 := H.n1
  have n2 := H.n2
  have h2 := H.h2
  have w1 := IntWalk.i64_in ((N : Int) + (h : Int)) (by omega)
  clear H
  go_enter Try.func134, Try.ntmps134
  go_wp2_with fail
  go_ret
  exact ⟨ret_int (by omega), rfl⟩
end Go.Proofs.Ytggimkfepcgaoaa.Lnk
end
section
namespace Go.Proofs.Ytggimkfepcgaoaa.Lnk
open Go Go.RowKit Kit
section
variable {w : World} {c q r cq cr N : Nat} {F : Fd} {Ls : List (List Nat)}
set_option maxRecDepth 100000 in
theorem isHead_ok (H : Lo w c q r cq cr N F Ls) {h : Nat} (hh : h < Ls.length) :
    Calls Try.prog 138 #[.pointer (some ⟨c, 0, none⟩), .int .i64 (h : Int)] w fun e w' => e = .returned (.bool true) ∧ w = w' := by
  obtain ⟨k0, k1, k2⟩ := H.cells
  have a1 : (0 : Int) ≤ (h : Int) := by omega
  have a2 : (h : Int) < (Ls.length : Int) := by omega
  clear H
  go_enter Try.func138, Try.ntmps138
  go_wp2_with fail
  go_ret
  exact ⟨rfl, rfl⟩
set_option maxRecDepth 100000 in
theorem isHead_bad (H : Lo w c q r cq cr N F Ls) {h : Int} (hh : ¬ (0 ≤ h ∧ h < (Ls.length : Int))) :
    Calls Try.prog 138 #[.pointer (some ⟨c, 0, none⟩), .int .i64 h] w fun e w' => e = .returned (.bool false) ∧ w = w' := by
  obtain ⟨k0, k1, k2⟩ := H.cells
  clear H
  by_cases a1 : (0 : Int) ≤ h
  · have a2 : ¬ h < (Ls.length : Int) := fun h2 => hh ⟨a1, h2⟩
    clear hh
    go_enter Try.func138, Try.ntmps138
    go_wp2_with fail
    go_ret
    exact ⟨rfl, rfl⟩
  · clear hh
    go_enter Try.func138, Try.ntmps138
    go_wp2_with fail
    go_ret
    exact ⟨rfl, rfl⟩
set_option maxRecDepth 100000 in
theorem checkHead_ok (H : Lo w c q r cq cr N F Ls) {h : Nat} (hh : h < Ls.length) :
    Calls Try.prog 87 #[.pointer (some ⟨c, 0, none⟩), .int .i64 (h : Int)] w fun e w' => e = .returned (.int .i64 0) ∧ w = w' := by
  have H1 := Lib.hid (isZero_any H)
  have H2 := Lib.hid (isHead_ok H hh)
  clear H
  go_enter Try.func87, Try.ntmps87
  go_wp2_with fail
  refine H1.out.mono ?_
  rintro e w1 ⟨rfl, rfl⟩
  go_wp2_with fail
  refine H2.out.mono ?_
  rintro e w1 ⟨rfl, rfl⟩
  go_wp2_with fail
  go_ret
  exact ⟨rfl, rfl⟩
set_option maxRecDepth 100000 in
theorem checkHead_bad (H : Lo w c q r cq cr N F Ls) {h : Int} (hh : ¬ (0 ≤ h ∧ h < (Ls.length : Int))) :
    Calls Try.prog 87 #[.pointer (some ⟨c, 0, none⟩), .int .i64 h] w fun e w' => e = .returned (.int .i64 2) ∧ w = w' := by
  have H1 := Lib.hid (isZero_any H)
  have H2 := Lib.hid (isHead_bad H hh)
  clear H hh
  go_enter Try.func87, Try.ntmps87
  go_wp2_with fail
  refine H1.out.mono ?_
  rintro e w1 ⟨rfl, rfl⟩
  go_wp2_with fail
  refine H2.out.mono ?_
  rintro e w1 ⟨rfl, rfl⟩
  go_wp2_with fail
  go_ret
  exact ⟨rfl, rfl⟩
set_option maxRecDepth 100000 in
theorem inside_in (H : Lo w c q r cq cr N F Ls) {n : Nat} (hn : n < N) :
    Calls Try.prog 133 #[.pointer (some ⟨c, 0, none⟩), .int .u32 (n : Int)] w fun e w' => e = .returned (.tuple #[.int .u32 (n : Int), .int .i64 0]) ∧ w = w' := by
  obtain ⟨k0, k1, k2⟩ := H.cells
  have a1 : ¬ (N : Int) ≤ (n : Int) := by omega
  have n2 := H.n2
  clear H
  go_enter Try.func133, Try.ntmps133
  go_wp2_with fail
  go_ret2
  exact ⟨rfl, rfl⟩
set_option maxRecDepth 100000 in
theorem inside_out (H : Lo w c q r cq cr N F Ls) {n : Nat} (hn : N ≤ n) (hn2 : n < 4294967296) :
    Calls Try.prog 133 #[.pointer (some ⟨c, 0, none⟩), .int .u32 (n : Int)] w fun e w' => e = .returned (.tuple #[.int .u32 0, .int .i64 9]) ∧ w = w' := by
  obtain ⟨k0, k1, k2⟩ := H.cells
  have a1 : (N : Int) ≤ (n : Int) := by omega
  have n2 := H.n2
  clear H
  go_enter Try.func133, Try.ntmps133
  go_wp2_with fail
  go_ret2
  exact ⟨rfl, rfl⟩
/-- check of one node -/
theorem check_any (H : Lo w c q r cq cr N F Ls) {n : Int} (n0 : 0 ≤ n) (n1 : n < 4294967296) {g : Nat} {t : TypeId} (hg : w.heap[g]? = some (.cells #[.int .u32 n] t (0, 0))) :
    Calls Try.prog 131 #[.pointer (some ⟨c, 0, none⟩), .slice (some ⟨g, 0, none⟩) 1 1] w fun e w' => e = .returned (.int .i64 (if n < (N : Int) then 0 else 2)) ∧ Below w.heap.size w w' := by
  obtain ⟨k0, k1, k2⟩ := H.cells
  have H1 := Lib.hid (isZero_any H)
  have e0 : w.cell? ⟨g, 0, none⟩ = some (.int .u32 n) := by simp [World.cell?, hg]
  have n2 := H.n2
  clear H hg
  by_cases hn : n < (N : Int)
  · rw [if_pos hn]
    have hn2 : ¬ (N : Int) ≤ n := by omega
    go_enter Try.func131, Try.ntmps131
    go_wp2_with fail
    refine H1.out.mono ?_
    rintro e w1 ⟨rfl, rfl⟩
    go_wp2_with fail
    refine wp_loop_rounds 2 ?_
    repeat any_goals (rw [rounds_succ]; go_wp2_with fail)
    go_ret
    exact ⟨rfl, by go_grown⟩
  · rw [if_neg hn]
    have hn2 : (N : Int) ≤ n := by omega
    go_enter Try.func131, Try.ntmps131
    go_wp2_with fail
    refine H1.out.mono ?_
    rintro e w1 ⟨rfl, rfl⟩
    go_wp2_with fail
    refine wp_loop_rounds 2 ?_
    repeat any_goals (rw [rounds_succ]; go_wp2_with fail)
    go_ret
    exact ⟨rfl, by go_grown⟩
end
end Go.Proofs.Ytggimkfepcgaoaa.Lnk
end
section
namespace Go.Proofs.Ytggimkfepcgaoaa.Lnk
open Go Go.RowKit Kit
section
variable {w : World} {c q r cq cr N : Nat} {F : Fd} {Ls : List (List Nat)}
theorem one_block (w : World) (v : Value) (t : TypeId) : (w.alloc (.cells #[v] t)).heap[w.heap.size]? = some (.cells #[v] t (0, 0)) := (MapKept.heap_alloc w _).1
theorem box_below (W : World) (vs : Array Value) (t : TypeId) : Below W.heap.size W (W.alloc (.cells vs t)) := by go_grown
set_option maxRecDepth 100000 in
theorem Of_bad (H : Lo w c q r cq cr N F Ls) {n : Int} (n0 : (N : Int) ≤ n) (n1 : n < 4294967296) :
    Calls Try.prog 65 #[.pointer (some ⟨c, 0, none⟩), .int .u32 n] w fun e w' => e = .returned (.tuple #[.int .i64 0, .int .i64 2]) ∧ Below w.heap.size w w' := by
  have HB := Lib.hid (box_below w #[.int .u32 n] 38)
  have H1 := Lib.hid (check_any (H.below HB.out) (n := n) (by omega) n1 (one_block w _ _))
  rw [if_neg (by omega)] at H1
  clear H
  go_enter Try.func65, Try.ntmps65
  go_wp2_with fail
  refine H1.out.mono ?_
  rintro e w1 ⟨rfl, b1⟩
  have B1 := Lib.hid (tr HB.out b1)
  clear b1
  go_wp2_with fail
  go_ret2
  exact ⟨rfl, B1.out⟩
set_option maxRecDepth 100000 in
theorem Of_in (H : Lo w c q r cq cr N F Ls) {n : Nat} (n0 : n < N) {k : Int} (hk : F.hd n = k) :
    Calls Try.prog 65 #[.pointer (some ⟨c, 0, none⟩), .int .u32 (n : Int)] w fun e w' => e = .returned (.tuple (if k = -1 then #[.int .i64 0, .int .i64 9] else #[.int .i64 k, .int .i64 0])) ∧ Below w.heap.size w w' := by
  have n2 := H.n2
  have h2 := H.h2
  have kb : -1 ≤ k ∧ k ≤ 4096 := by
    by_cases hf : F.hd n = -1
    · omega
    · obtain ⟨j, l, h3, h4, h5⟩ := H.ring.in_list n0 hf
      have := (List.getElem?_eq_some_iff.1 h3).1
      omega
  have HB := Lib.hid (box_below w #[.int .u32 (n : Int)] 38)
  have H1 := Lib.hid (check_any (H.below HB.out) (n := n) (by omega) (by omega) (one_block w _ _))
  rw [if_pos (by omega)] at H1
  have HH := Lib.hid (fun w' (hb : Below w.heap.size w w') => H.below hb)
  have hi : (n : Int) < ((N + Ls.length : Nat) : Int) := by omega
  have hi2 : (n : Int) < (N : Int) + (Ls.length : Int) := by omega
  have hi3 : n < N + Ls.length := by omega
  have i0 : (0 : Int) ≤ (n : Int) := by omega
  clear H
  by_cases hk1 : k = -1
  · rw [if_pos hk1]
    have hb : (k == -1) = true := by rw [beq_iff_eq]; exact hk1
    go_enter Try.func65, Try.ntmps65
    go_wp2_with fail
    refine H1.out.mono ?_
    rintro e w1 ⟨rfl, b1⟩
    have B1 := Lib.hid (tr HB.out b1)
    obtain ⟨k0, k1, k2⟩ := (HH.out _ B1.out).cells
    obtain ⟨e0, e1, e2⟩ := (HH.out _ B1.out).fw.at_ hi3
    rw [hk, hk1] at e2
    clear b1
    go_wp2_with fail
    go_ret2
    exact ⟨rfl, B1.out⟩
  · rw [if_neg hk1]
    have hb : (k == -1) = false := by rw [beq_eq_false_iff_ne]; exact hk1
    have wk := IntWalk.i64_in k (by omega)
    go_enter Try.func65, Try.ntmps65
    go_wp2_with fail
    refine H1.out.mono ?_
    rintro e w1 ⟨rfl, b1⟩
    have B1 := Lib.hid (tr HB.out b1)
    obtain ⟨k0, k1, k2⟩ := (HH.out _ B1.out).cells
    obtain ⟨e0, e1, e2⟩ := (HH.out _ B1.out).fw.at_ hi3
    rw [hk] at e2
    clear b1
    go_wp2_with fail
    go_ret2
    exact ⟨rfl, B1.out⟩
end
end Go.Proofs.Ytggimkfepcgaoaa.Lnk
end
section
namespace Go.Proofs.Ytggimkfepcgaoaa.Lnk
open Go Go.RowKit Kit
/-- a node, or none -/
def nodeR : Option Nat → Value
  | some x => .tuple #[.int .u32 (x : Int), .int .i64 0]
  | none => .tuple #[.int .u32 0, .int .i64 9]
section
variable {w : World} {c q r cq cr N : Nat} {F : Fd} {Ls : List (List Nat)}
theorem inside_any (H : Lo w c q r cq cr N F Ls) {n : Nat} (hn : n < N + Ls.length) :
    Calls Try.prog 133 #[.pointer (some ⟨c, 0, none⟩), .int .u32 (n : Int)] w fun e w' => e = .returned (nodeR (if n < N then some n else none)) ∧ w = w' := by
  have n2 := H.n2
  have h2 := H.h2
  by_cases h : n < N
  · rw [if_pos h]; exact inside_in H h
  · rw [if_neg h]; exact inside_out H (by omega) (by omega)
theorem nx_lt (H : Lo w c q r cq cr N F Ls) {k : Nat} {l l1 l2 : List Nat} {x : Nat} (hl : Ls[k]? = some l) : fst l (N + k) < N + Ls.length ∧ lst (N + k) l < N + Ls.length := by
  have hk := (List.getElem?_eq_some_iff.1 hl).1
  constructor
  · cases l with
    | nil => show N + k < _; omega
    | cons y l => have := (H.ring.mem k _ y hl (by simp)).1; show y < _; omega
  · rcases lst_mem (a := N + k) (l := l) with h | h
    · rw [h]; omega
    · have := (H.ring.mem k _ _ hl h).1; omega
set_option maxRecDepth 100000 in
theorem First_ok (H : Lo w c q r cq cr N F Ls) {k : Nat} {l : List Nat} (hl : Ls[k]? = some l) :
    Calls Try.prog 66 #[.pointer (some ⟨c, 0, none⟩), .int .i64 (k : Int)] w fun e w' => e = .returned (nodeR (if fst l (N + k) < N then some (fst l (N + k)) else none)) ∧ Below w.heap.size w w' := by
  have hk := (List.getElem?_eq_some_iff.1 hl).1
  have H1 := Lib.hid (checkHead_ok H hk)
  have hc := H.ring.ch k l hl
  have hlt := (nx_lt (l1 := []) (l2 := []) (x := 0) H hl).1
  have hnx : F.nx (N + k) = fst l (N + k) := hc.first
  have HS := Lib.hid (fun w' (hb : Below w.heap.size w w') => (show w'.cell? ⟨c, 1, none⟩ = some (.slice (some ⟨q, 0, none⟩) (N + Ls.length) cq) ∧ w'.cell? ⟨q, (N + k) * 3 + 1, none⟩ = some (.int .u32 ((fst l (N + k) : Nat) : Int)) ∧ Lo w' c q r cq cr N F Ls ∧ Below w.heap.size w w' from by
    have H' := H.below hb
    obtain ⟨k0, k1, k2⟩ := H'.cells
    obtain ⟨e0, e1, e2⟩ := H'.fw.at_ (i := N + k) (by omega)
    rw [hnx] at e1
    exact ⟨k1, e1, H', hb⟩))
  have H2 := Lib.hid (fun (v : World) (h : v.cell? ⟨c, 1, none⟩ = some (.slice (some ⟨q, 0, none⟩) (N + Ls.length) cq) ∧ v.cell? ⟨q, (N + k) * 3 + 1, none⟩ = some (.int .u32 ((fst l (N + k) : Nat) : Int)) ∧ Lo v c q r cq cr N F Ls ∧ Below w.heap.size w v) => root_any h.2.2.1 hk)
  have H3 := Lib.hid (fun (v : World) (h : v.cell? ⟨c, 1, none⟩ = some (.slice (some ⟨q, 0, none⟩) (N + Ls.length) cq) ∧ v.cell? ⟨q, (N + k) * 3 + 1, none⟩ = some (.int .u32 ((fst l (N + k) : Nat) : Int)) ∧ Lo v c q r cq cr N F Ls ∧ Below w.heap.size w v) => inside_any h.2.2.1 hlt)
  have hi2 : ((N + k : Nat) : Int) < (N : Int) + (Ls.length : Int) := by omega
  have hi3 : ((N + k : Nat) : Int) < ((N + Ls.length : Nat) : Int) := by omega
  have i0 : (0 : Int) ≤ ((N + k : Nat) : Int) := by omega
  obtain ⟨k0, k1, k2⟩ := H.cells
  generalize fst l (N + k) = x at *
  clear H hc hnx hl hk
  obtain ⟨M, hM⟩ : ∃ M, N + k = M := ⟨_, rfl⟩
  rw [hM] at hi2 hi3 i0 HS H2 H3
  clear hM
  obtain ⟨y, hy⟩ : ∃ y, (if x < N then some x else none) = y := ⟨_, rfl⟩
  rw [hy] at H3 ⊢
  clear hy
  cases y <;> (
  simp only [nodeR] at H3 ⊢
  go_enter Try.func66, Try.ntmps66
  go_wp2_with fail
  refine H1.out.mono ?_
  rintro e w1 ⟨rfl, rfl⟩
  go_wp2_with fail
  go_region_held3 (fun w' => w'.cell? ⟨c, 1, none⟩ = some (.slice (some ⟨q, 0, none⟩) (N + Ls.length) cq) ∧ w'.cell? ⟨q, M * 3 + 1, none⟩ = some (.int .u32 ((x : Nat) : Int)) ∧ Lo w' c q r cq cr N F Ls ∧ Below w.heap.size w w')
    (first
      | (exact HS.out _ (Below.drew (Below.refl _ _)))
      | assumption
      | fail)
    (first
      | (go_at_call 134; refine (H2.out _ (by assumption)).mono ?_; rintro e w' ⟨rfl, rfl⟩)
      | (go_at_call 133; refine (H3.out _ (by assumption)).mono ?_; rintro e w' ⟨rfl, rfl⟩)
      | fail)
  go_wp2_with fail
  go_ret2
  exact ⟨rfl, by go_grown⟩)
set_option maxRecDepth 100000 in
theorem First_bad (H : Lo w c q r cq cr N F Ls) {h : Int} (hh : ¬ (0 ≤ h ∧ h < (Ls.length : Int))) :
    Calls Try.prog 66 #[.pointer (some ⟨c, 0, none⟩), .int .i64 h] w fun e w' => e = .returned (.tuple #[.int .u32 0, .int .i64 2]) ∧ w = w' := by
  have H1 := Lib.hid (checkHead_bad H hh)
  clear H hh
  go_enter Try.func66, Try.ntmps66
  go_wp2_with fail
  refine H1.out.mono ?_
  rintro e w1 ⟨rfl, rfl⟩
  go_wp2_with fail
  go_ret2
  exact ⟨rfl, rfl⟩
set_option maxRecDepth 100000 in
theorem Last_ok (H : Lo w c q r cq cr N F Ls) {k : Nat} {l : List Nat} (hl : Ls[k]? = some l) :
    Calls Try.prog 75 #[.pointer (some ⟨c, 0, none⟩), .int .i64 (k : Int)] w fun e w' => e = .returned (nodeR (if lst (N + k) l < N then some (lst (N + k) l) else none)) ∧ Below w.heap.size w w' := by
  have hk := (List.getElem?_eq_some_iff.1 hl).1
  have H1 := Lib.hid (checkHead_ok H hk)
  have hc := H.ring.ch k l hl
  have hlt := (nx_lt (l1 := []) (l2 := []) (x := 0) H hl).2
  have hnx : F.pv (N + k) = lst (N + k) l := hc.last
  have HS := Lib.hid (fun w' (hb : Below w.heap.size w w') => (show w'.cell? ⟨c, 1, none⟩ = some (.slice (some ⟨q, 0, none⟩) (N + Ls.length) cq) ∧ w'.cell? ⟨q, (N + k) * 3, none⟩ = some (.int .u32 ((lst (N + k) l : Nat) : Int)) ∧ Lo w' c q r cq cr N F Ls ∧ Below w.heap.size w w' from by
    have H' := H.below hb
    obtain ⟨k0, k1, k2⟩ := H'.cells
    obtain ⟨e0, e1, e2⟩ := H'.fw.at_ (i := N + k) (by omega)
    rw [hnx] at e0
    exact ⟨k1, e0, H', hb⟩))
  have H2 := Lib.hid (fun (v : World) (h : v.cell? ⟨c, 1, none⟩ = some (.slice (some ⟨q, 0, none⟩) (N + Ls.length) cq) ∧ v.cell? ⟨q, (N + k) * 3, none⟩ = some (.int .u32 ((lst (N + k) l : Nat) : Int)) ∧ Lo v c q r cq cr N F Ls ∧ Below w.heap.size w v) => root_any h.2.2.1 hk)
  have H3 := Lib.hid (fun (v : World) (h : v.cell? ⟨c, 1, none⟩ = some (.slice (some ⟨q, 0, none⟩) (N + Ls.length) cq) ∧ v.cell? ⟨q, (N + k) * 3, none⟩ = some (.int .u32 ((lst (N + k) l : Nat) : Int)) ∧ Lo v c q r cq cr N F Ls ∧ Below w.heap.size w v) => inside_any h.2.2.1 hlt)
  have hi2 : ((N + k : Nat) : Int) < (N : Int) + (Ls.length : Int) := by omega
  have hi3 : ((N + k : Nat) : Int) < ((N + Ls.length : Nat) : Int) := by omega
  have i0 : (0 : Int) ≤ ((N + k : Nat) : Int) := by omega
  obtain ⟨k0, k1, k2⟩ := H.cells
  generalize lst (N + k) l = x at *
  clear H hc hnx hl hk
  obtain ⟨M, hM⟩ : ∃ M, N + k = M := ⟨_, rfl⟩
  rw [hM] at hi2 hi3 i0 HS H2 H3
  clear hM
  obtain ⟨y, hy⟩ : ∃ y, (if x < N then some x else none) = y := ⟨_, rfl⟩
  rw [hy] at H3 ⊢
  clear hy
  cases y <;> (
  simp only [nodeR] at H3 ⊢
  go_enter Try.func75, Try.ntmps75
  go_wp2_with fail
  refine H1.out.mono ?_
  rintro e w1 ⟨rfl, rfl⟩
  go_wp2_with fail
  go_region_held3 (fun w' => w'.cell? ⟨c, 1, none⟩ = some (.slice (some ⟨q, 0, none⟩) (N + Ls.length) cq) ∧ w'.cell? ⟨q, M * 3, none⟩ = some (.int .u32 ((x : Nat) : Int)) ∧ Lo w' c q r cq cr N F Ls ∧ Below w.heap.size w w')
    (first
      | (exact HS.out _ (Below.drew (Below.refl _ _)))
      | assumption
      | fail)
    (first
      | (go_at_call 134; refine (H2.out _ (by assumption)).mono ?_; rintro e w' ⟨rfl, rfl⟩)
      | (go_at_call 133; refine (H3.out _ (by assumption)).mono ?_; rintro e w' ⟨rfl, rfl⟩)
      | fail)
  go_wp2_with fail
  go_ret2
  exact ⟨rfl, by go_grown⟩)
set_option maxRecDepth 100000 in
theorem Last_bad (H : Lo w c q r cq cr N F Ls) {h : Int} (hh : ¬ (0 ≤ h ∧ h < (Ls.length : Int))) :
    Calls Try.prog 75 #[.pointer (some ⟨c, 0, none⟩), .int .i64 h] w fun e w' => e = .returned (.tuple #[.int .u32 0, .int .i64 2]) ∧ w = w' := by
  have H1 := Lib.hid (checkHead_bad H hh)
  clear H hh
  go_enter Try.func75, Try.ntmps75
  go_wp2_with fail
  refine H1.out.mono ?_
  rintro e w1 ⟨rfl, rfl⟩
  go_wp2_with fail
  go_ret2
  exact ⟨rfl, rfl⟩
end
end Go.Proofs.Ytggimkfepcgaoaa.Lnk
end
