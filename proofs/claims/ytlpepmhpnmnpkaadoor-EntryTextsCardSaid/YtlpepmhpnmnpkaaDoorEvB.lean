/-
  A checked evaluator, part B: when a world bears a heap, and what a step keeps.
-/
import Derived.Test.YtlpepmhpnmnpkaaDoorEvA
set_option linter.unusedVariables false
set_option linter.unusedSectionVars false
set_option linter.unusedSimpArgs false
namespace Go.Proofs.YtlpepmhpnmnpkaaDoor.Ev
open Go Go.RowKit
variable [Tab]

/-- the temporaries of a frame, by number -/
def TRv (M : Mp) (σ : Nat → Value) (nt : Nat) (tm : Tr (Nat × Value)) (ts : Array Value) : Prop :=
  ts.size = nt ∧ ∀ k t x, tm.get k = some (t, x) → k = key t ∧ t < nt ∧ VR M σ x (ts.getD t undef)
theorem TRv.mono {M M' : Mp} {σ : Nat → Value} {nt : Nat} {tm : Tr (Nat × Value)} {ts : Array Value} (hl : Le M M') (h : TRv M σ nt tm ts) : TRv M' σ nt tm ts :=
  ⟨h.1, fun k t x e => let ⟨h1, h2, h3⟩ := h.2 k t x e; ⟨h1, h2, h3.mono hl⟩⟩
/-- entries of a map -/
inductive ER (M : Mp) (σ : Nat → Value) : List MapEntry → List MapEntry → Prop where
  | nil : ER M σ [] []
  | cons {e f : MapEntry} {es fs : List MapEntry} (hk : f.key = e.key) (hv : VR M σ e.val f.val) (hb : f.born = e.born) (h : ER M σ es fs) : ER M σ (e :: es) (f :: fs)
theorem ER.mono {M M' : Mp} {σ : Nat → Value} (hl : Le M M') {es fs : List MapEntry} (h : ER M σ es fs) : ER M' σ es fs := by
  induction h with
  | nil => exact .nil
  | cons hk hv hb _ ih => exact .cons hk (hv.mono hl) hb ih
/-- what is frozen lies behind the row -/
def Unf (fr : Nat × Nat) (n : Nat) : Prop := fr.1 = fr.2 ∨ n ≤ fr.1
omit [Tab] in
theorem Unf.no {fr : Nat × Nat} {n : Nat} (h : Unf fr n) (j : Nat) (hj : j < n) : (decide (fr.1 ≤ j) && decide (j < fr.2)) = false := by
  rcases h with h | h
  · rw [h, Bool.and_eq_false_iff]
    rcases Nat.lt_or_ge j fr.2 with h1 | h1
    · exact .inl (by simpa using h1)
    · exact .inr (by simpa using h1)
  · rw [Bool.and_eq_false_iff]
    exact .inl (by simp; omega)
/-- where it begins -/
def Sd (t : TypeId) (s : Nat) : Prop := isBld t Tab.table = true → s = 0
def BR (M : Mp) (σ : Nat → Value) : Blk → Place → World → Prop
  | .cells t xs, p, w => ∃ (c : Array Value) (fr : Nat × Nat), w.heap[p.b]? = some (.cells c t fr) ∧ Unf fr c.size ∧ Sd t p.s ∧ c.size = p.n ∧ p.s + xs.length ≤ p.n ∧
      ∀ (j : Nat) (x : Value), xs[j]? = some x → ∃ v, c[p.s + j]? = some v ∧ VR M σ x v
  | .map es clock, p, w => ∃ fs : Array MapEntry, w.heap[p.b]? = some (.map fs clock) ∧ ER M σ es fs.toList
  | .loop st pe tm nt ps asg body df, p, w => ∃ r : Loop, w.heap[p.b]? = some (.loop r) ∧ r.state = st ∧ r.pending = pe ∧ TRv M σ nt tm r.tmps ∧ r.params = ps ∧ r.assign = asg ∧ r.body = body ∧ ∃ q, M (key df) = some q ∧ r.defers = q.b
  | .marks shut, p, w => w.heap[p.b]? = some (.deferred (match shut with | true => none | false => some []))
  | .iter m since seen last, p, w => p.s = 0 ∧ ∃ (mo : Option Nat) (sa : Array Nat), w.heap[p.b]? = some (.mapIter mo since sa last) ∧ sa.toList = seen ∧ (match m with | none => mo = none | some k => ∃ q, M (key k) = some q ∧ mo = some q.b)
  | .dead, _, _ => True
abbrev HP := Key → Option Blk
def upd (H : HP) (k : Key) (b : Blk) : HP := fun k' => if k' = k then some b else H k'
theorem upd_same (H : HP) (k : Key) (b : Blk) : upd H k b k = some b := by simp [upd]
theorem upd_other (H : HP) {k k' : Key} (b : Blk) (h : k' ≠ k) : upd H k b k' = H k' := by simp [upd, h]
theorem Tr.get_upd (t : Tr Blk) (k : Key) (b : Blk) : (t.set k b).get = upd t.get k b := by funext k'; rw [Tr.get_set, upd]
/-- a row that was there before -/
def GR (σ : Nat → Value) (x : Nat × List Value) (w : World) : Prop :=
  ∃ (c : Array Value) (t : TypeId) (fr : Nat × Nat), w.heap[x.1]? = some (.cells c t fr) ∧ ∀ (j : Nat) (y : Value), x.2[j]? = some y → ∃ v, c[j]? = some v ∧ VR (fun _ => none) σ y v
theorem GR.same {σ : Nat → Value} {x : Nat × List Value} {w w' : World} (hw : w'.heap[x.1]? = w.heap[x.1]?) (h : GR σ x w) : GR σ x w' := by
  obtain ⟨c, t, fr, h1, h2⟩ := h
  exact ⟨c, t, fr, hw.trans h1, h2⟩
theorem GR.lt {σ : Nat → Value} {x : Nat × List Value} {w : World} (h : GR σ x w) : x.1 < w.heap.size := by
  obtain ⟨c, t, fr, h1, h2⟩ := h
  exact (Array.getElem?_eq_some_iff.1 h1).1
/-- world w bears heap H -/
structure HR (M : Mp) (σ : Nat → Value) (H : HP) (w : World) : Prop where
  blk : ∀ k b, H k = some b → b.live = true → ∃ p, M k = some p ∧ BR M σ b p w
  inj : ∀ k k' b b' p p', H k = some b → b.live = true → H k' = some b' → b'.live = true → M k = some p → M k' = some p' → p.b = p'.b → k = k'
  dom : ∀ k p, M k = some p → ∃ b, H k = some b
  gl : ∀ x ∈ Tab.globs, GR σ x w ∧ ∀ k b p, H k = some b → b.live = true → M k = some p → p.b ≠ x.1
/-- what a step keeps -/
structure Stp (M : Mp) (H : HP) (w : World) (M' : Mp) (H' : HP) (w' : World) : Prop where
  le : Le M M'
  os : w'.os = w.os
  tape : w'.tape = w.tape
  output : w'.output = w.output
  size : w.heap.size ≤ w'.heap.size
  frame : ∀ j, j < w.heap.size → (∀ k b p, H k = some b → b.live = true → M k = some p → p.b ≠ j) → w'.heap[j]? = w.heap[j]?
  dead : ∀ k, H k = some .dead → H' k = some .dead
  fresh : ∀ k p, M' k = some p → M k = some p ∨ H k = none
  grow : ∀ k b, H k = some b → ∃ b', H' k = some b'
  own : ∀ k b p, H' k = some b → b.live = true → M' k = some p → w.heap.size ≤ p.b ∨ ∃ k0 b0 p0, H k0 = some b0 ∧ b0.live = true ∧ M k0 = some p0 ∧ p0.b = p.b

section
variable {M M' M'' : Mp} {σ : Nat → Value} {H H' H'' : HP} {w w' w'' : World}
theorem Stp.refl (M : Mp) (H : HP) (w : World) : Stp M H w M H w :=
  ⟨Le.refl _, rfl, rfl, rfl, Nat.le_refl _, fun _ _ _ => rfl, fun _ h => h, fun _ _ h => .inl h, fun _ b h => ⟨b, h⟩, fun k b p h l m => .inr ⟨k, b, p, h, l, m, rfl⟩⟩
theorem Stp.trans (h : Stp M H w M' H' w') (k : Stp M' H' w' M'' H'' w'') : Stp M H w M'' H'' w'' where
  le := h.le.trans k.le
  os := k.os.trans h.os
  tape := k.tape.trans h.tape
  output := k.output.trans h.output
  size := Nat.le_trans h.size k.size
  frame := fun j hj hno => by
    refine (k.frame j (Nat.lt_of_lt_of_le hj h.size) ?_).trans (h.frame j hj hno)
    intro k1 b1 p1 g1 l1 m1 e
    rcases h.own k1 b1 p1 g1 l1 m1 with hh | ⟨k0, b0, p0, g0, l0, m0, e0⟩
    · omega
    · exact hno k0 b0 p0 g0 l0 m0 (e0.trans e)
  dead := fun i hi => k.dead i (h.dead i hi)
  fresh := fun i p hp => by
    rcases k.fresh i p hp with h1 | h1
    · exact h.fresh i p h1
    · cases hi : H i with
      | none => exact .inr rfl
      | some b => obtain ⟨b', hb'⟩ := h.grow i b hi; rw [h1] at hb'; cases hb'
  grow := fun i b hi => let ⟨b', hb'⟩ := h.grow i b hi; k.grow i b' hb'
  own := fun k1 b1 p1 g1 l1 m1 => by
    rcases k.own k1 b1 p1 g1 l1 m1 with hh | ⟨k0, b0, p0, g0, l0, m0, e0⟩
    · exact .inl (Nat.le_trans h.size hh)
    · rcases h.own k0 b0 p0 g0 l0 m0 with hh | ⟨k2, b2, p2, g2, l2, m2, e2⟩
      · exact .inl (by omega)
      · exact .inr ⟨k2, b2, p2, g2, l2, m2, e2.trans e0⟩
/-- from the empty heap: nothing that was there has turned -/
theorem Stp.below {M : Mp} (h : Stp M (fun _ => none) w M' H' w') : Below w.heap.size w w' :=
  ⟨h.os, h.tape, h.output, h.size, fun j hj => h.frame j hj fun k b p hg => by cases hg⟩
theorem BR.mono {b : Blk} {p : Place} (hl : Le M M') (h : BR M σ b p w) : BR M' σ b p w := by
  cases b with
  | dead => trivial
  | marks shut => exact h
  | iter m since seen last =>
    obtain ⟨h0, mo, sa, h1, h2, h3⟩ := h
    refine ⟨h0, mo, sa, h1, h2, ?_⟩
    cases m with
    | none => exact h3
    | some k => obtain ⟨q, h4, h5⟩ := h3; exact ⟨q, hl _ _ h4, h5⟩
  | cells t xs =>
    obtain ⟨c, fr, h1, h0, hs, h2, h3, h4⟩ := h
    exact ⟨c, fr, h1, h0, hs, h2, h3, fun j x hx => let ⟨v, hv, hr⟩ := h4 j x hx; ⟨v, hv, hr.mono hl⟩⟩
  | map es clock => obtain ⟨fs, h1, h2⟩ := h; exact ⟨fs, h1, h2.mono hl⟩
  | loop st pe tm nt ps asg body df =>
    obtain ⟨r, h1, h2, h3, h4, h5, h6, h7, q, h8, h9⟩ := h
    exact ⟨r, h1, h2, h3, h4.mono hl, h5, h6, h7, q, hl _ _ h8, h9⟩
theorem BR.same {b : Blk} {p : Place} (hw : w'.heap[p.b]? = w.heap[p.b]?) (h : BR M σ b p w) : BR M σ b p w' := by
  cases b with
  | dead => trivial
  | marks shut => exact hw.trans h
  | iter m since seen last => obtain ⟨h0, mo, sa, h1, h2⟩ := h; exact ⟨h0, mo, sa, hw.trans h1, h2⟩
  | cells t xs =>
    obtain ⟨c, fr, h1, h2⟩ := h
    exact ⟨c, fr, hw.trans h1, h2⟩
  | map es clock => obtain ⟨fs, h1, h2⟩ := h; exact ⟨fs, hw.trans h1, h2⟩
  | loop st pe tm nt ps asg body df => obtain ⟨r, h1, h2⟩ := h; exact ⟨r, hw.trans h1, h2⟩
theorem BR.here {b : Blk} {p : Place} (hb : b.live = true) (h : BR M σ b p w) : ∃ o, w.heap[p.b]? = some o := by
  cases b with
  | dead => cases hb
  | marks shut => exact ⟨_, h⟩
  | iter m since seen last => obtain ⟨h0, mo, sa, h1, -⟩ := h; exact ⟨_, h1⟩
  | cells t xs => obtain ⟨c, fr, h1, -⟩ := h; exact ⟨_, h1⟩
  | map es clock => obtain ⟨fs, h1, -⟩ := h; exact ⟨_, h1⟩
  | loop st pe tm nt ps asg body df => obtain ⟨r, h1, -⟩ := h; exact ⟨_, h1⟩
theorem HR.place_lt (h : HR M σ H w) {k : Key} {b : Blk} {p : Place} (g : H k = some b) (l : b.live = true) (m : M k = some p) : p.b < w.heap.size := by
  obtain ⟨p', hp', hb⟩ := h.blk k b g l
  rw [m] at hp'; cases hp'
  obtain ⟨o, ho⟩ := hb.here l
  exact (Array.getElem?_eq_some_iff.1 ho).1
theorem HR.lt (h : HR M σ H w) {k : Key} {t : TypeId} {xs : List Value} {p : Place} (hg : H k = some (.cells t xs)) (hp : M k = some p) : p.b < w.heap.size := h.place_lt hg rfl hp
/-- what stands where a live block does -/
theorem HR.at (h : HR M σ H w) {k : Key} {b : Blk} {p : Place} (hg : H k = some b) (l : b.live = true) (hp : M k = some p) : BR M σ b p w := by
  obtain ⟨p', hp', hb⟩ := h.blk k b hg l
  rw [hp] at hp'; cases hp'
  exact hb
/-- the cells of a live block -/
theorem HR.cell (h : HR M σ H w) {k : Key} {t : TypeId} {xs : List Value} {p : Place} (hg : H k = some (.cells t xs)) (hp : M k = some p) {o : Nat} {x : Value} (hx : xs[o]? = some x) :
    ∃ v, w.cell? ⟨p.b, p.s + o, none⟩ = some v ∧ VR M σ x v := by
  obtain ⟨c, fr, h1, h0, hsd, h2, h3, h4⟩ := h.at hg rfl hp
  obtain ⟨v, hv, hr⟩ := h4 o x hx
  exact ⟨v, by simp [World.cell?, h1, hv], hr⟩
theorem HR.free (h : HR M σ H w) {k : Key} {t : TypeId} {xs : List Value} {p : Place} (hg : H k = some (.cells t xs)) (hp : M k = some p) {o : Nat} (ho : o < p.n) : w.frozen? ⟨p.b, o, none⟩ = false := by
  obtain ⟨c, fr, h1, h0, hsd, h2, h3, h4⟩ := h.at hg rfl hp
  have := h0.no o (by omega)
  obtain ⟨lo, hi⟩ := fr
  simp only [World.frozen?, h1]
  simpa using this
theorem HR.drew (h : HR M σ H w) : HR M σ H w.drew := ⟨fun k b hg l => let ⟨p, hp, hb⟩ := h.blk k b hg l; ⟨p, hp, hb.same (w := w) (w' := w.drew) rfl⟩, h.inj, h.dom, fun x hx => ⟨(h.gl x hx).1.same (w := w) (w' := w.drew) rfl, (h.gl x hx).2⟩⟩
theorem Stp.drew : Stp M H w M H w.drew := ⟨Le.refl _, rfl, rfl, rfl, Nat.le_refl _, fun _ _ _ => rfl, fun _ h => h, fun _ _ h => .inl h, fun _ b h => ⟨b, h⟩, fun k b p h l m => .inr ⟨k, b, p, h, l, m, rfl⟩⟩
/-- a world that differs nowhere that a live block stands -/
theorem HR.keep (h : HR M σ H w) (hw : ∀ k b p, H k = some b → b.live = true → M k = some p → w'.heap[p.b]? = w.heap[p.b]?) (hg : ∀ x ∈ Tab.globs, w'.heap[x.1]? = w.heap[x.1]?) : HR M σ H w' :=
  ⟨fun k b hg l => let ⟨p, hp, hb⟩ := h.blk k b hg l; ⟨p, hp, hb.same (hw k b p hg l hp)⟩, h.inj, h.dom, fun x hx => ⟨(h.gl x hx).1.same (hg x hx), (h.gl x hx).2⟩⟩

/-- one block is written -/
theorem HR.write (h : HR M σ H w) {k : Key} {b0 b : Blk} {p : Place} (hg : H k = some b0) (l0 : b0.live = true) (hp : M k = some p) (hoth : ∀ j, j ≠ p.b → w'.heap[j]? = w.heap[j]?) (hos : w'.os = w.os) (htp : w'.tape = w.tape) (hou : w'.output = w.output) (hsz : w'.heap.size = w.heap.size)
    (hl : b.live = true) (hb : BR M σ b p w') : HR M σ (upd H k b) w' ∧ Stp M H w M (upd H k b) w' := by
  have f : ∀ {k' b'}, upd H k b k' = some b' → b'.live = true → ∃ b0, H k' = some b0 ∧ b0.live = true := by
    intro k' b' g l
    by_cases hk : k' = k
    · subst hk; exact ⟨_, hg, l0⟩
    · rw [upd_other _ _ hk] at g; exact ⟨_, g, l⟩
  refine ⟨⟨?_, ?_, ?_, ?_⟩, ⟨Le.refl _, hos, htp, hou, by omega, ?_, ?_, fun _ _ h => .inl h, ?_, ?_⟩⟩
  · intro k' b' hg' l'
    by_cases hk : k' = k
    · subst hk
      rw [upd_same] at hg'; cases hg'
      exact ⟨p, hp, hb⟩
    · rw [upd_other _ _ hk] at hg'
      obtain ⟨q, hq, hb'⟩ := h.blk k' b' hg' l'
      refine ⟨q, hq, hb'.same (hoth _ fun e => hk (h.inj k' k b' _ q p hg' l' hg l0 hq hp e))⟩
  · intro k1 k2 b1 b2 p1 p2 g1 l1 g2 l2 m1 m2 e
    obtain ⟨b1', g1', l1'⟩ := f g1 l1
    obtain ⟨b2', g2', l2'⟩ := f g2 l2
    exact h.inj _ _ _ _ _ _ g1' l1' g2' l2' m1 m2 e
  · intro k' q hq
    by_cases hk : k' = k
    · subst hk; exact ⟨_, upd_same _ _ _⟩
    · rw [upd_other _ _ hk]; exact h.dom k' q hq
  · intro x hx
    refine ⟨(h.gl x hx).1.same (hoth _ fun e => (h.gl x hx).2 k b0 p hg l0 hp e.symm), fun k1 b1 p1 g1 l1 m1 => ?_⟩
    obtain ⟨b1', g1', l1'⟩ := f g1 l1
    exact (h.gl x hx).2 k1 b1' p1 g1' l1' m1
  · intro j hj hno
    exact hoth j fun e => hno k _ p hg l0 hp e.symm
  · intro k' hk'
    have e : k' ≠ k := by rintro rfl; rw [hg] at hk'; cases hk'; cases l0
    rw [upd_other _ _ e]; exact hk'
  · intro k' b' hb'
    by_cases e : k' = k
    · subst e; exact ⟨_, upd_same _ _ _⟩
    · rw [upd_other _ _ e]; exact ⟨b', hb'⟩
  · intro k' b' q g l m
    by_cases hk : k' = k
    · subst hk; exact .inr ⟨k', _, q, hg, l0, m, rfl⟩
    · rw [upd_other _ _ hk] at g; exact .inr ⟨k', b', q, g, l, m, rfl⟩
/-- one cell is written -/
theorem HR.set1 (h : HR M σ H w) {k : Key} {t : TypeId} {xs : List Value} {p : Place} (hg : H k = some (.cells t xs)) (hp : M k = some p) {o : Nat} (ho : o < xs.length) {x v : Value} (hr : VR M σ x v) :
    HR M σ (upd H k (.cells t (xs.set o x))) (w.setCell ⟨p.b, p.s + o, none⟩ v) ∧ Stp M H w M (upd H k (.cells t (xs.set o x))) (w.setCell ⟨p.b, p.s + o, none⟩ v) := by
  obtain ⟨c, fr, h1, h0, hsd, h2, h3, h4⟩ := h.at hg rfl hp
  have hlt := (Array.getElem?_eq_some_iff.1 h1).1
  have hblk : (w.setCell ⟨p.b, p.s + o, none⟩ v).heap[p.b]? = some (.cells (c.set (p.s + o) v (by omega)) t fr) := by
    obtain ⟨_, hk⟩ := Array.getElem?_eq_some_iff.1 h1
    show (w.heap.modify p.b _)[p.b]? = _
    rw [Array.getElem?_eq_getElem (by rw [Array.size_modify]; exact hlt), Array.getElem_modify_self, hk]
    have : p.s + o < c.size := by omega
    simp [Array.setIfInBounds, this]
  refine h.write hg rfl hp (fun j hj => Below.heap_setCell w _ v j hj) rfl rfl rfl (by simp) rfl ⟨_, fr, hblk, by simpa using h0, hsd, by simp [h2], by simpa using h3, fun j y hy => ?_⟩
  by_cases hj : j = o
  · subst hj
    rw [List.getElem?_set_self ho] at hy; cases hy
    exact ⟨v, by simp, hr⟩
  · rw [List.getElem?_set_ne (by omega)] at hy
    obtain ⟨u, hu, hr'⟩ := h4 j y hy
    exact ⟨u, by rw [Array.getElem?_set_ne _ (by omega)]; exact hu, hr'⟩
theorem HR.unplaced (h : HR M σ H w) {k : Key} (hk : H k = none) : M k = none := by
  cases hm : M k with
  | none => rfl
  | some p => obtain ⟨b, hb⟩ := h.dom k p hm; rw [hk] at hb; cases hb
def ins (M : Mp) (k : Key) (p : Place) : Mp := fun k' => if k' = k then some p else M k'
theorem ins_same (M : Mp) (k : Key) (p : Place) : ins M k p k = some p := by simp [ins]
theorem ins_le {k : Key} (hM : M k = none) (p : Place) : Le M (ins M k p) := fun k' q hq => by
  have hne : k' ≠ k := by rintro rfl; rw [hM] at hq; cases hq
  simp [ins, hne, hq]
/-- a block comes to stand somewhere -/
theorem HR.adopt (h : HR M σ H w) {k : Key} (hM : M k = none) {p : Place} (hno : ∀ k' b' q, H k' = some b' → b'.live = true → M k' = some q → q.b ≠ p.b) (hng : ∀ x ∈ Tab.globs, p.b ≠ x.1) {b : Blk} (hb : BR (ins M k p) σ b p w) :
    HR (ins M k p) σ (upd H k b) w := by
  have hle : Le M (ins M k p) := ins_le hM _
  refine ⟨?_, ?_, ?_, fun x hx => ⟨(h.gl x hx).1, fun k1 b1 p1 g1 l1 m1 => ?_⟩⟩
  · intro k' b' g l
    by_cases e : k' = k
    · subst e
      rw [upd_same] at g; cases g
      exact ⟨p, ins_same _ _ _, hb⟩
    · rw [upd_other _ _ e] at g
      obtain ⟨q, hq, hb'⟩ := h.blk k' b' g l
      exact ⟨q, hle _ _ hq, hb'.mono hle⟩
  · intro k1 k2 b1 b2 p1 p2 g1 l1 g2 l2 m1 m2 e
    by_cases e1 : k1 = k <;> by_cases e2 : k2 = k
    · exact e1.trans e2.symm
    · rw [upd_other _ _ e2] at g2
      simp only [ins, e1, if_true, Option.some.injEq] at m1
      simp only [ins, e2, if_false] at m2
      have := hno _ _ _ g2 l2 m2
      subst m1; exact absurd e.symm this
    · rw [upd_other _ _ e1] at g1
      simp only [ins, e2, if_true, Option.some.injEq] at m2
      simp only [ins, e1, if_false] at m1
      have := hno _ _ _ g1 l1 m1
      subst m2; exact absurd e this
    · rw [upd_other _ _ e1] at g1
      rw [upd_other _ _ e2] at g2
      simp only [ins, e1, if_false] at m1
      simp only [ins, e2, if_false] at m2
      exact h.inj _ _ _ _ _ _ g1 l1 g2 l2 m1 m2 e
  · intro k' q hq
    by_cases e : k' = k
    · subst e; exact ⟨_, upd_same _ _ _⟩
    · simp only [ins, e, if_false] at hq
      rw [upd_other _ _ e]; exact h.dom k' q hq
  · by_cases e : k1 = k
    · simp only [ins, e, if_true, Option.some.injEq] at m1
      subst m1; exact hng x hx
    · rw [upd_other _ _ e] at g1
      simp only [ins, e, if_false] at m1
      exact (h.gl x hx).2 k1 b1 p1 g1 l1 m1
/-- a block is made -/
theorem HR.make (h : HR M σ H w) {k : Key} (hM : M k = none) {b : Blk} {n : Nat} {o : Obj} (hb : BR (ins M k ⟨w.heap.size, 0, n⟩) σ b ⟨w.heap.size, 0, n⟩ (w.alloc o)) :
    HR (ins M k ⟨w.heap.size, 0, n⟩) σ (upd H k b) (w.alloc o) := by
  have h' : HR M σ H (w.alloc o) := h.keep (fun k' b' q g l m => Below.heap_alloc w o _ (h.place_lt g l m)) fun x hx => Below.heap_alloc w o _ (h.gl x hx).1.lt
  exact h'.adopt hM (fun k' b' q g l m => by have := h.place_lt g l m; show q.b ≠ w.heap.size; omega) (fun x hx => by have := (h.gl x hx).1.lt; show w.heap.size ≠ x.1; omega) hb
theorem heap_new (w : World) (o : Obj) : (w.alloc o).heap[w.heap.size]? = some o := (MapKept.heap_alloc w _).1
/-- a row of cells is made, which may be longer than what is known of it -/
theorem BR.row {M : Mp} {xs : List Value} {vs : Array Value} {t : TypeId} (hl : xs.length ≤ vs.size) (h : ∀ (j : Nat) (x : Value), xs[j]? = some x → ∃ v, vs[j]? = some v ∧ VR M σ x v) :
    BR M σ (.cells t xs) ⟨w.heap.size, 0, vs.size⟩ (w.alloc (.cells vs t)) :=
  ⟨vs, (0, 0), heap_new _ _, .inl rfl, fun _ => rfl, rfl, by simpa using hl, fun j x hx => by simpa using h j x hx⟩
theorem HR.new (h : HR M σ H w) {k : Key} (hM : M k = none) (t : TypeId) {xs vs : List Value} (hr : VRs M σ xs vs) :
    HR (ins M k ⟨w.heap.size, 0, vs.length⟩) σ (upd H k (.cells t xs)) (w.alloc (.cells vs.toArray t)) := by
  refine h.make hM ?_
  have := BR.row (M := ins M k ⟨w.heap.size, 0, vs.length⟩) (σ := σ) (w := w) (t := t) (xs := xs) (vs := vs.toArray) (by simp [hr.length]) fun j x hx => by
    obtain ⟨v, hv, hr'⟩ := hr.get hx
    exact ⟨v, by simpa using hv, hr'.mono (ins_le hM _)⟩
  simpa using this
theorem Stp.alloc {M0 : Mp} {H0 : HP} {w0 : World} (h : Stp M0 H0 w0 M H w) {k : Key} (hM : M k = none) (hk : H0 k = none) (b : Blk) (n : Nat) (o : Obj) :
    Stp M0 H0 w0 (ins M k ⟨w.heap.size, 0, n⟩) (upd H k b) (w.alloc o) where
  le := h.le.trans (ins_le hM _)
  os := h.os
  tape := h.tape
  output := h.output
  size := by have := h.size; simp; omega
  frame := fun j hj hno => (Below.heap_alloc w o j (Nat.lt_of_lt_of_le hj h.size)).trans (h.frame j hj hno)
  dead := fun k' hk' => by
    have e : k' ≠ k := by rintro rfl; rw [hk] at hk'; cases hk'
    rw [upd_other _ _ e]; exact h.dead k' hk'
  fresh := fun k' p hp => by
    by_cases e : k' = k
    · subst e; exact .inr hk
    · simp only [ins, e, if_false] at hp; exact h.fresh k' p hp
  grow := fun k' b' hb' => by
    have e : k' ≠ k := by rintro rfl; rw [hk] at hb'; cases hb'
    rw [upd_other _ _ e]; exact h.grow k' b' hb'
  own := fun k' b' q g l m => by
    by_cases e : k' = k
    · subst e
      simp [ins] at m; subst m; exact .inl h.size
    · rw [upd_other _ _ e] at g
      simp only [ins, e, if_false] at m
      exact h.own k' b' q g l m
/-- a block stands by while a step is made beside it -/
theorem HR.framed {k0 : Key} {b0 : Blk} (h : HR M σ (upd H k0 b0) w) (l0 : b0.live = true) (hd : H k0 = some .dead) (hs : Stp M H w M' H' w') (h' : HR M' σ H' w') :
    HR M' σ (upd H' k0 b0) w' ∧ Stp M (upd H k0 b0) w M' (upd H' k0 b0) w' := by
  have hd' := hs.dead k0 hd
  obtain ⟨p0, hp0, hb0⟩ := h.blk k0 b0 (upd_same _ _ _) l0
  have hnd : ∀ {k b}, H k = some b → b.live = true → k ≠ k0 := fun {k b} g l e => by subst e; rw [hd] at g; cases g; cases l
  have hnd' : ∀ {k b}, H' k = some b → b.live = true → k ≠ k0 := fun {k b} g l e => by subst e; rw [hd'] at g; cases g; cases l
  have hup : ∀ {k b}, H k = some b → b.live = true → upd H k0 b0 k = some b := fun {k b} g l => by rw [upd_other _ _ (hnd g l)]; exact g
  have hlt0 := h.place_lt (upd_same _ _ _) l0 hp0
  have hwin : ∀ k b p, H k = some b → b.live = true → M k = some p → p.b ≠ p0.b := fun k b p g l m e =>
    hnd g l (h.inj k k0 b b0 p p0 (hup g l) l (upd_same _ _ _) l0 m hp0 e)
  have hsame : w'.heap[p0.b]? = w.heap[p0.b]? := hs.frame p0.b hlt0 hwin
  have hp0' := hs.le _ _ hp0
  have hwin' : ∀ k b p, H' k = some b → b.live = true → M' k = some p → p.b ≠ p0.b := fun k b p g l m e => by
    rcases hs.own k b p g l m with hh | ⟨k1, b1, p1, g1, l1, m1, e1⟩
    · omega
    · exact hwin k1 b1 p1 g1 l1 m1 (e1.trans e)
  refine ⟨⟨?_, ?_, ?_, fun x hx => ⟨(h'.gl x hx).1, fun k b p g l m => ?_⟩⟩, ⟨hs.le, hs.os, hs.tape, hs.output, hs.size, ?_, ?_, ?_, ?_, ?_⟩⟩
  · intro k b g l
    by_cases e : k = k0
    · subst e
      rw [upd_same] at g; cases g
      exact ⟨p0, hp0', (hb0.mono hs.le).same hsame⟩
    · rw [upd_other _ _ e] at g; exact h'.blk k b g l
  · intro k1 k2 b1 b2 p1 p2 g1 l1 g2 l2 m1 m2 e
    by_cases e1 : k1 = k0 <;> by_cases e2 : k2 = k0
    · exact e1.trans e2.symm
    · rw [upd_other _ _ e2] at g2
      subst e1; rw [hp0'] at m1; cases m1
      exact absurd e.symm (hwin' k2 b2 p2 g2 l2 m2)
    · rw [upd_other _ _ e1] at g1
      subst e2; rw [hp0'] at m2; cases m2
      exact absurd e (hwin' k1 b1 p1 g1 l1 m1)
    · rw [upd_other _ _ e1] at g1
      rw [upd_other _ _ e2] at g2
      exact h'.inj _ _ _ _ _ _ g1 l1 g2 l2 m1 m2 e
  · intro k p hp
    by_cases e : k = k0
    · subst e; exact ⟨_, upd_same _ _ _⟩
    · rw [upd_other _ _ e]; exact h'.dom k p hp
  · by_cases e : k = k0
    · subst e
      rw [hp0'] at m; cases m
      exact (h.gl x hx).2 k b0 p0 (upd_same _ _ _) l0 hp0
    · rw [upd_other _ _ e] at g; exact (h'.gl x hx).2 k b p g l m
  · intro j hj hno
    exact hs.frame j hj fun k b p g l m => hno k b p (hup g l) l m
  · intro k hk
    by_cases e : k = k0
    · subst e; rw [upd_same] at hk; cases hk; cases l0
    · rw [upd_other _ _ e] at hk ⊢; exact hs.dead k hk
  · intro k p hp
    rcases hs.fresh k p hp with h1 | h1
    · exact .inl h1
    · refine .inr ?_
      have e : k ≠ k0 := by rintro rfl; rw [hd] at h1; cases h1
      rw [upd_other _ _ e]; exact h1
  · intro k b hb
    by_cases e : k = k0
    · subst e; exact ⟨_, upd_same _ _ _⟩
    · rw [upd_other _ _ e] at hb ⊢; exact hs.grow k b hb
  · intro k b q g l m
    by_cases e : k = k0
    · subst e
      rw [hp0'] at m; cases m
      exact .inr ⟨k, b0, p0, upd_same _ _ _, l0, hp0, rfl⟩
    · rw [upd_other _ _ e] at g
      rcases hs.own k b q g l m with hh | ⟨k1, b1, p1, g1, l1, m1, e1⟩
      · exact .inl hh
      · exact .inr ⟨k1, b1, p1, hup g1 l1, l1, m1, e1⟩
/-- a block is forgotten -/
theorem HR.forget {k0 : Key} {b0 : Blk} (h : HR M σ (upd H k0 b0) w) (hd : H k0 = some .dead) : HR M σ H w := by
  have hup : ∀ {k b}, H k = some b → b.live = true → upd H k0 b0 k = some b := fun {k b} g l => by
    rw [upd_other _ _ (fun e => by subst e; rw [hd] at g; cases g; cases l)]; exact g
  refine ⟨fun k b g l => h.blk k b (hup g l) l, fun k1 k2 b1 b2 p1 p2 g1 l1 g2 l2 m1 m2 e => h.inj k1 k2 b1 b2 p1 p2 (hup g1 l1) l1 (hup g2 l2) l2 m1 m2 e, fun k p hp => ?_, fun x hx => ⟨(h.gl x hx).1, fun k b p g l m => (h.gl x hx).2 k b p (hup g l) l m⟩⟩
  by_cases e : k = k0
  · subst e; exact ⟨_, hd⟩
  · obtain ⟨b, hb⟩ := h.dom k p hp; rw [upd_other _ _ e] at hb; exact ⟨b, hb⟩
end
end Go.Proofs.YtlpepmhpnmnpkaaDoor.Ev
