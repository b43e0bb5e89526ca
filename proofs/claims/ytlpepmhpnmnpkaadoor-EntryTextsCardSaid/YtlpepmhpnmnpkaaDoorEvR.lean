/-
  A checked evaluator, part R: a region whose order is open.
-/
import Derived.Test.YtlpepmhpnmnpkaaDoorEvJ
import Derived.OrdersIn
import Derived.RegionTactic
set_option linter.unusedVariables false
set_option linter.unusedSimpArgs false
set_option linter.unusedSectionVars false
namespace Go.Proofs.YtlpepmhpnmnpkaaDoor.Ev
open Go Go.RowKit
variable [Tab]

/-! ### blocks that stand by -/
def addL (L : List (Key × Blk)) (H : HP) : HP := L.foldr (fun x H => upd H x.1 x.2) H
theorem addL_nil (H : HP) : addL [] H = H := rfl
theorem addL_cons (x : Key × Blk) (L : List (Key × Blk)) (H : HP) : addL (x :: L) H = upd (addL L H) x.1 x.2 := rfl
theorem addL_not {L : List (Key × Blk)} {H : HP} {k : Key} (h : ∀ x ∈ L, x.1 ≠ k) : addL L H k = H k := by
  induction L with
  | nil => rfl
  | cons x L ih =>
    rw [addL_cons, upd_other _ _ (fun e => h x (by simp) e.symm)]
    exact ih fun y hy => h y (by simp [hy])
theorem addL_mem {L : List (Key × Blk)} {H : HP} (hn : (L.map (·.1)).Nodup) {x : Key × Blk} (h : x ∈ L) : addL L H x.1 = some x.2 := by
  induction L with
  | nil => cases h
  | cons y L ih =>
    rw [addL_cons]
    rw [List.map_cons, List.nodup_cons] at hn
    rcases List.mem_cons.1 h with rfl | h
    · exact upd_same _ _ _
    · rw [upd_other _ _ (fun e => hn.1 (by rw [← e]; exact List.mem_map_of_mem h))]
      exact ih hn.2 h
section
variable {P : Program} {M M' : Mp} {σ : Nat → Value} [TabOK P σ] {w w' : World} {H H' : HP}
/-- the blocks L stand by -/
theorem HR.framedL {L : List (Key × Blk)} (hn : (L.map (·.1)).Nodup) (hl : ∀ x ∈ L, x.2.live = true ∧ H x.1 = some .dead) (h : HR M σ (addL L H) w) (hs : Stp M H w M' H' w') (h' : HR M' σ H' w') :
    HR M' σ (addL L H') w' ∧ Stp M (addL L H) w M' (addL L H') w' := by
  induction L with
  | nil => exact ⟨h', hs⟩
  | cons x L ih =>
    rw [List.map_cons, List.nodup_cons] at hn
    have hx := hl x (by simp)
    have hd : addL L H x.1 = some .dead := by
      rw [addL_not fun y hy e => hn.1 (by rw [← e]; exact List.mem_map_of_mem hy)]; exact hx.2
    rw [addL_cons] at h ⊢
    obtain ⟨i1, i2⟩ := ih hn.2 (fun y hy => hl y (by simp [hy])) (h.forget hd)
    exact h.framed hx.1 hd i2 i1
theorem HR.forgetL {L : List (Key × Blk)} (hn : (L.map (·.1)).Nodup) (hl : ∀ x ∈ L, H x.1 = some .dead) (h : HR M σ (addL L H) w) : HR M σ H w := by
  induction L with
  | nil => exact h
  | cons x L ih =>
    rw [List.map_cons, List.nodup_cons] at hn
    have hd : addL L H x.1 = some .dead := by
      rw [addL_not fun y hy e => hn.1 (by rw [← e]; exact List.mem_map_of_mem hy)]; exact hl x (by simp)
    rw [addL_cons] at h
    exact ih hn.2 (fun y hy => hl y (by simp [hy])) (h.forget hd)
theorem addL_split {α : Type} (f : α → Key × Blk) {L : List α} (hn : (L.map fun x => (f x).1).Nodup) (p : α → Bool) (H : HP) : addL (L.map f) H = addL ((L.filter fun x => !p x).map f) (addL ((L.filter p).map f) H) := by
  have hn0 : ((L.map f).map (·.1)).Nodup := by rw [List.map_map]; exact hn
  have hsub : ∀ q : α → Bool, (((L.filter q).map f).map (·.1)).Nodup := fun q => ((List.filter_sublist.map f).map _).nodup hn0
  have huniq : ∀ (x y : α), x ∈ L → y ∈ L → (f y).1 = (f x).1 → y = x := by
    intro x y hx hy e
    induction L with
    | nil => cases hx
    | cons z L ih =>
      rw [List.map_cons, List.nodup_cons] at hn
      rcases List.mem_cons.1 hx with rfl | hx' <;> rcases List.mem_cons.1 hy with rfl | hy'
      · rfl
      · exact absurd (by rw [← e]; exact List.mem_map_of_mem hy') hn.1
      · exact absurd (by rw [e]; exact List.mem_map_of_mem hx') hn.1
      · refine ih hn.2 ?_ ?_ hx' hy'
        · rw [List.map_map]; exact hn.2
        · intro q
          have h2 : ((L.map f).map (·.1)).Nodup := by rw [List.map_map]; exact hn.2
          exact ((List.filter_sublist.map f).map _).nodup h2
  funext k
  by_cases hk : ∃ x ∈ L, (f x).1 = k
  · obtain ⟨x, hx, rfl⟩ := hk
    rw [addL_mem hn0 (List.mem_map_of_mem hx)]
    cases hp : p x with
    | true =>
      rw [addL_not, addL_mem (hsub p) (List.mem_map_of_mem (List.mem_filter.2 ⟨hx, hp⟩))]
      intro y hy e
      obtain ⟨z, hz, rfl⟩ := List.mem_map.1 hy
      rw [List.mem_filter] at hz
      rw [huniq x z hx hz.1 e, hp] at hz
      simp at hz
    | false => rw [addL_mem (hsub _) (List.mem_map_of_mem (List.mem_filter.2 ⟨hx, by simp [hp]⟩))]
  · have hno : ∀ q : α → Bool, ∀ x ∈ (L.filter q).map f, x.1 ≠ k := fun q x hx e => by
      obtain ⟨z, hz, rfl⟩ := List.mem_map.1 hx
      exact hk ⟨z, (List.mem_filter.1 hz).1, e⟩
    rw [addL_not (hno _), addL_not (hno _), addL_not]
    intro x hx e
    obtain ⟨z, hz, rfl⟩ := List.mem_map.1 hx
    exact hk ⟨z, hz, e⟩

/-! ### the region -/
/-- what is known of a region -/
structure RD where
  val : Nat → Value
  As : List (Nat × Key × Blk)
  m : Nat
  c : Nat → Nat
  Hs : Nat → Tr Blk
  anc : Nat → Nat → Bool
def RD.mrg (R : RD) (q i : Nat) : Bool := (List.range q).any fun s => R.anc (R.c s) i
/-- the operands of operation j -/
def RD.ro (R : RD) (ops : Array Oper) (tm : Tr (Nat × Value)) (j : Nat) : Operand → Option Value
  | .tmp t => match (List.range ops.size).find? fun i => (ops[i]?).any (·.dst == some t) with
    | none => evO tm (.tmp t)
    | some i => match R.anc j i with
      | true => some (R.val i)
      | false => match R.anc i j || i == j with
        | true => evO tm (.tmp t)
        | false => none
  | x => evO tm x
def RD.feas (R : RD) (j q : Nat) : Prop := (∀ r, r < q → R.anc (R.c r) j = false) ∧ (∀ r, q ≤ r → r < R.m → R.anc j (R.c r) = false)
def RD.L1 (R : RD) (r : Nat) : List (Key × Blk) := (R.As.filter fun x => R.anc (R.c r) x.1 && !R.mrg r x.1).map (·.2)
def RD.LJ (R : RD) (j q : Nat) : List (Key × Blk) := (R.As.filter fun x => R.anc j x.1 && !R.mrg q x.1).map (·.2)
def RD.pend (R : RD) (D : Nat → Bool) (q : Nat) : List (Key × Blk) := (R.As.filter fun x => D x.1 && !R.mrg q x.1).map (·.2)
def RD.HD (R : RD) (D : Nat → Bool) (q : Nat) : HP := addL (R.pend D q) (R.Hs q).get
/-- operands that are known -/
def RD.Sub (R : RD) (ops : Array Oper) (tm : Tr (Nat × Value)) (j : Nat) (ρ : Operand → Option Value) : Prop := ∀ x y, ρ x = some y → R.ro ops tm j x = some y
inductive RD.Good (P : Program) (call : CallE) (R : RD) (ops : Array Oper) (tm : Tr (Nat × Value)) (j : Nat) (o : Oper) : Prop where
  | skip (ρ : Operand → Option Value) (hρ : R.Sub ops tm j ρ) (hw : wantR ops.toList ρ o = some false) (hv : R.val j = undef) (hnf : ∀ r, r < R.m → R.c r ≠ j) (hA : ∀ x ∈ R.As, x.1 ≠ j)
  | pure (ρ : Operand → Option Value) (hρ : R.Sub ops tm j ρ) (hw : wantR ops.toList ρ o = some true) (hnf : ∀ r, r < R.m → R.c r ≠ j) (hA : ∀ x ∈ R.As, x.1 ≠ j)
      (h : ∀ q, q ≤ R.m → R.feas j q → ∃ nx G, G.get = addL (R.LJ j q) (R.Hs q).get ∧ evOp P o ρ G nx = some (.pure (R.val j)))
  | new (ρ : Operand → Option Value) (hρ : R.Sub ops tm j ρ) (hw : wantR ops.toList ρ o = some true) (hnf : ∀ r, r < R.m → R.c r ≠ j) (b : Blk) (mk : Nat → Value) (id : Nat) (hA : (j, key id, b) ∈ R.As) (hv : R.val j = mk id)
      (h : ∀ q, q ≤ R.m → R.feas j q → ∃ nx, evOp P o ρ (R.Hs q) nx = some (.new b mk))
  | upd (ρ : Operand → Option Value) (hρ : R.Sub ops tm j ρ) (hw : wantR ops.toList ρ o = some true) (hA : ∀ x ∈ R.As, x.1 ≠ j) (r : Nat) (hr : r < R.m) (hc : R.c r = j) (G : Tr Blk) (nx nx' : Nat) (hG : G.get = addL (R.L1 r) (R.Hs r).get)
      (h : evOp P o ρ G nx = some (.upd (R.val j) (R.Hs (r + 1)) nx'))
  | call (ρ : Operand → Option Value) (hρ : R.Sub ops tm j ρ) (hw : wantR ops.toList ρ o = some true) (hA : ∀ x ∈ R.As, x.1 ≠ j) (r : Nat) (hr : r < R.m) (hc : R.c r = j) (G : Tr Blk) (nx nx' : Nat) (hG : G.get = addL (R.L1 r) (R.Hs r).get) (f : Tg) (args : List Value)
      (h : evOp P o ρ G nx = some (.call f args)) (h' : call f args G nx = some (R.val j, R.Hs (r + 1), nx'))
/-- the conditions on what is known -/
structure RD.OK (P : Program) (call : CallE) (R : RD) (ops : Array Oper) (tm : Tr (Nat × Value)) (nt : Nat) (H0 : HP) : Prop where
  anc : ∀ j k, R.anc j k = true → ∃ o, ops[j]? = some o ∧ ∃ e ∈ o.after, Region.binds .any e = true ∧ (e.on = k ∨ R.anc e.on k = true)
  ord : ∀ r s, r < s → s < R.m → R.anc (R.c s) (R.c r) = true
  dst : ∀ (i j : Nat) (oi oj : Oper) (d : Tmp), ops[i]? = some oi → ops[j]? = some oj → oi.dst = some d → oj.dst = some d → i = j
  lt : ∀ (i : Nat) (oi : Oper) (d : Tmp), ops[i]? = some oi → oi.dst = some d → d < nt
  good : ∀ (j : Nat) (o : Oper), ops[j]? = some o → R.Good P call ops tm j o
  keys : (R.As.map (fun x => x.2.1)).Nodup
  ids : ∀ x ∈ R.As, ∀ y ∈ R.As, x.1 = y.1 → x = y
  live : ∀ x ∈ R.As, x.2.2.live = true ∧ H0 x.2.1 = none
  h0 : ∃ Ds : List Key, (∀ k ∈ Ds, H0 k = none) ∧ (∀ x ∈ R.As, x.2.1 ∈ Ds) ∧ (R.Hs 0).get = addL (Ds.map fun k => (k, .dead)) H0
  perm : ∀ D : Nat → Bool, (∃ j, j < ops.size ∧ D j = false) → ∃ (j : Nat) (o : Oper), ops[j]? = some o ∧ D j = false ∧ ∀ e ∈ o.after, Region.binds .any e = true → D e.on = true
def dn (l : Array Bool) (i : Nat) : Bool := l.getD i false
/-- where the region stands -/
structure RD.Rel (R : RD) (σ : Nat → Value) (ops : Array Oper) (tm : Tr (Nat × Value)) (nt : Nat) (ds : List Deferred) (M0 : Mp) (H0 : HP) (w0 : World) (l : Array Bool) (a : Act) (w : World) (M : Mp) (q : Nat) : Prop where
  cl : ∀ j k, dn l j = true → R.anc j k = true → dn l k = true
  hq : q ≤ R.m
  nf : ∀ r, r < R.m → (dn l (R.c r) = true ↔ r < q)
  sz : a.tmps.size = nt
  df : a.defers = ds
  new : ∀ (i : Nat) (o : Oper) (d : Tmp), ops[i]? = some o → dn l i = true → o.dst = some d → VR M σ (R.val i) (a.tmps.getD d undef)
  old : ∀ t x, evO tm (.tmp t) = some x → (∀ (i : Nat) (o : Oper), ops[i]? = some o → dn l i = true → o.dst ≠ some t) → VR M σ x (a.tmps.getD t undef)
  hp : HR M σ (R.HD (dn l) q) w
  st : Stp M0 H0 w0 M (R.HD (dn l) q) w
  no : ∀ x ∈ R.As, dn l x.1 = false → M x.2.1 = none
  dead : ∀ x ∈ R.As, R.mrg q x.1 = false → (R.Hs q).get x.2.1 = some .dead

variable {call : CallE} {R : RD} {ops : Array Oper} {tm : Tr (Nat × Value)} {nt : Nat} {ds : List Deferred} {M0 : Mp} {H0 : HP} {w0 : World} {l : Array Bool} {a : Act} {q : Nat} {Q : Exit → Act → World → Prop}
theorem dn_set {l : Array Bool} {j : Nat} (hj : j < l.size) (i : Nat) : dn (l.setIfInBounds j true) i = (decide (i = j) || dn l i) := by
  unfold dn
  by_cases e : i = j
  · subst e; simp [hj]
  · have : j ≠ i := fun h => e h.symm
    simp [Array.getD_eq_getD_getElem?, Array.getElem?_setIfInBounds_ne this, e]
theorem evO_other {x : Operand} {y : Value} (e : evO tm x = some y) (hx : ∀ t, x ≠ .tmp t) : VR M σ y (a.eval x) := by
  cases x with
  | tmp t => exact absurd rfl (hx t)
  | const v =>
    rw [evO_const] at e
    split at e
    · rename_i hc; cases e; exact VR.of_clean _ hc
    · cases e
  | func f => simp only [evO, opK] at e; cases e; exact .func f .nil .nil
  | global g => simp only [evO, opK] at e; cases e; exact .abs g 0
/-- what ready means -/
theorem RD.Rel.ready (ok : R.OK P call ops tm nt H0) (h : R.Rel σ ops tm nt ds M0 H0 w0 l a w M q) {j : Nat} (hj : j ∈ Region.ready .any ops l) :
    dn l j = false ∧ j < l.size ∧ ∃ o, ops[j]? = some o ∧ (∀ k, R.anc j k = true → dn l k = true) ∧ R.feas j q ∧ R.mrg q j = false := by
  obtain ⟨hu, o, ho, hall⟩ := mem_ready.1 hj
  have hsz : j < l.size := by
    rcases Nat.lt_or_ge j l.size with h | h
    · exact h
    · simp [Array.getElem?_eq_none h] at hu
  have hd : dn l j = false := by
    unfold dn; simp [hsz] at hu ⊢; exact hu
  have hanc : ∀ k, R.anc j k = true → dn l k = true := fun k hk => by
    obtain ⟨o', ho', e, he, hb, hk'⟩ := ok.anc j k hk
    rw [ho] at ho'; cases ho'
    have h1 := hall e he hb
    rcases hk' with rfl | hk'
    · exact h1
    · exact h.cl e.on k h1 hk'
  have hm : ∀ s, s < q → R.anc (R.c s) j = false := fun s hs => by
    cases hh : R.anc (R.c s) j with
    | false => rfl
    | true =>
      have := h.cl _ _ ((h.nf s (Nat.lt_of_lt_of_le hs h.hq)).2 hs) hh
      rw [hd] at this; cases this
  refine ⟨hd, hsz, o, ho, hanc, ⟨hm, fun r h1 h2 => ?_⟩, ?_⟩
  · cases hh : R.anc j (R.c r) with
    | false => rfl
    | true => have := (h.nf r h2).1 (hanc _ hh); omega
  · unfold RD.mrg
    rw [List.any_eq_false]
    intro s hs
    rw [hm s (List.mem_range.1 hs)]; simp
theorem RD.Rel.opd (ok : R.OK P call ops tm nt H0) (h : R.Rel σ ops tm nt ds M0 H0 w0 l a w M q) (htm : ∀ d x, evO tm (.tmp d) = some x → d < nt) {j : Nat} (hd : dn l j = false) (hanc : ∀ k, R.anc j k = true → dn l k = true) :
    Opd M σ (R.ro ops tm j) a.eval ∧ ∀ d x, R.ro ops tm j (.tmp d) = some x → d < a.tmps.size := by
  have key : ∀ t x, R.ro ops tm j (.tmp t) = some x → VR M σ x (a.tmps.getD t undef) ∧ t < a.tmps.size := by
    intro t x e
    rw [h.sz]
    simp only [RD.ro] at e
    split at e
    · rename_i hf
      refine ⟨h.old t x e fun i o ho hdn hdst => ?_, htm _ _ e⟩
      have := List.find?_eq_none.1 hf i (List.mem_range.2 (Array.getElem?_eq_some_iff.1 ho).1)
      simp [ho, hdst] at this
    · rename_i i hf
      have hi := List.find?_some hf
      obtain ⟨oi, hoi, hdi⟩ : ∃ oi, ops[i]? = some oi ∧ oi.dst = some t := by
        cases ho : ops[i]? with
        | none => simp [ho] at hi
        | some oi => simp [ho] at hi; exact ⟨oi, rfl, hi⟩
      split at e
      · rename_i ha
        cases e
        exact ⟨h.new i oi t hoi (hanc i ha) hdi, ok.lt i oi t hoi hdi⟩
      · split at e
        · rename_i hor
          refine ⟨h.old t x e fun i' o' ho' hdn hdst => ?_, htm _ _ e⟩
          have := ok.dst i i' oi o' t hoi ho' hdi hdst
          subst this
          rw [Bool.or_eq_true] at hor
          rcases hor with h1 | h1
          · have := h.cl i j hdn h1; rw [hd] at this; cases this
          · have : i = j := by simpa using h1
            subst this; rw [hd] at hdn; cases hdn
        · cases e
  refine ⟨fun x y e => ?_, fun d x e => (key d x e).2⟩
  cases x with
  | tmp t => exact (key t y e).1
  | const v => exact evO_other (tm := tm) (by simpa [RD.ro] using e) (by simp)
  | func f => exact evO_other (tm := tm) (by simpa [RD.ro] using e) (by simp)
  | global g => exact evO_other (tm := tm) (by simpa [RD.ro] using e) (by simp)
theorem mrg_succ (R : RD) (q i : Nat) : R.mrg (q + 1) i = (R.mrg q i || R.anc (R.c q) i) := by
  simp [RD.mrg, List.range_succ]

theorem RD.OK.keysF (ok : R.OK P call ops tm nt H0) (p : Nat × Key × Blk → Bool) : ((R.As.filter p).map (fun x => x.2.1)).Nodup := (List.filter_sublist.map _).nodup ok.keys
theorem RD.OK.keysL (ok : R.OK P call ops tm nt H0) (p : Nat × Key × Blk → Bool) : (((R.As.filter p).map (·.2)).map (·.1)).Nodup := by
  rw [List.map_map]; exact ok.keysF p
/-- the temporaries behind a step -/
theorem RD.Rel.put (ok : R.OK P call ops tm nt H0) (h : R.Rel σ ops tm nt ds M0 H0 w0 l a w M q) {j : Nat} {o : Oper} (ho : ops[j]? = some o) (hsz : j < l.size) {M' : Mp} (hl : Le M M') {u : Value} (hu : VR M' σ (R.val j) u) :
    (a.put o.dst u).tmps.size = nt ∧ (a.put o.dst u).defers = ds ∧
    (∀ (i : Nat) (oi : Oper) (d : Tmp), ops[i]? = some oi → dn (l.setIfInBounds j true) i = true → oi.dst = some d → VR M' σ (R.val i) ((a.put o.dst u).tmps.getD d undef)) ∧
    (∀ t x, evO tm (.tmp t) = some x → (∀ (i : Nat) (oi : Oper), ops[i]? = some oi → dn (l.setIfInBounds j true) i = true → oi.dst ≠ some t) → VR M' σ x ((a.put o.dst u).tmps.getD t undef)) := by
  have hother : ∀ d, o.dst ≠ some d → (a.put o.dst u).tmps.getD d undef = a.tmps.getD d undef := fun d hd => by
    cases hdst : o.dst with
    | none => rfl
    | some d' =>
      have hne : d' ≠ d := fun e => hd (by rw [hdst, e])
      simp [Act.put, Array.getD_eq_getD_getElem?, Array.getElem?_setIfInBounds_ne hne]
  refine ⟨by cases o.dst <;> simp [Act.put, h.sz], by cases o.dst <;> exact h.df, ?_, ?_⟩
  · intro i oi d hoi hdn hdst
    rw [dn_set hsz] at hdn
    by_cases e : i = j
    · subst e
      rw [ho] at hoi; cases hoi
      have hlt := ok.lt i o d ho hdst
      rw [← h.sz] at hlt
      simpa [Act.put, hdst, Array.getD, hlt] using hu
    · have hdn' : dn l i = true := by simpa [e] using hdn
      rw [hother d fun hd => e (ok.dst i j oi o d hoi ho hdst hd)]
      exact (h.new i oi d hoi hdn' hdst).mono hl
  · intro t x e hno
    rw [hother t (hno j o ho (by rw [dn_set hsz]; simp))]
    exact (h.old t x e fun i oi hoi hdn => hno i oi hoi (by rw [dn_set hsz]; simp [hdn])).mono hl
theorem RD.Rel.base (ok : R.OK P call ops tm nt H0) (h : R.Rel σ ops tm nt ds M0 H0 w0 l a w M q) : HR M σ (R.Hs q).get w := by
  refine HR.forgetL (ok.keysL _) ?_ h.hp
  intro x hx
  obtain ⟨y, hy, rfl⟩ := List.mem_map.1 hx
  rw [List.mem_filter, Bool.and_eq_true] at hy
  exact h.dead y hy.1 (by simpa using hy.2.2)
theorem RD.pend_same {D D' : Nat → Bool} (h : ∀ x ∈ R.As, D x.1 = D' x.1) : R.pend D q = R.pend D' q := by
  unfold RD.pend
  congr 1
  apply List.filter_congr
  intro x hx
  rw [h x hx]
theorem RD.Rel.plain (ok : R.OK P call ops tm nt H0) (h : R.Rel σ ops tm nt ds M0 H0 w0 l a w M q) {j : Nat} {o : Oper} (ho : ops[j]? = some o) (hsz : j < l.size) (hanc : ∀ k, R.anc j k = true → dn l k = true)
    (hnf : ∀ r, r < R.m → R.c r ≠ j) (hA : ∀ x ∈ R.As, x.1 ≠ j) {u : Value} (hu : VR M σ (R.val j) u) : R.Rel σ ops tm nt ds M0 H0 w0 (l.setIfInBounds j true) (a.put o.dst u) w M q := by
  obtain ⟨p1, p2, p3, p4⟩ := h.put ok ho hsz (Le.refl _) hu
  have hHD : R.HD (dn (l.setIfInBounds j true)) q = R.HD (dn l) q := by
    unfold RD.HD
    rw [RD.pend_same (D' := dn l) fun x hx => by rw [dn_set hsz]; simp [hA x hx]]
  refine ⟨?_, h.hq, ?_, p1, p2, p3, p4, by rw [hHD]; exact h.hp, by rw [hHD]; exact h.st, ?_, h.dead⟩
  · intro i k hi hk
    rw [dn_set hsz] at hi ⊢
    by_cases e : i = j
    · subst e; simp [hanc k hk]
    · have : dn l i = true := by simpa [e] using hi
      simp [h.cl i k this hk]
  · intro r hr
    rw [dn_set hsz]
    have : decide (R.c r = j) = false := by simpa using hnf r hr
    rw [this, Bool.false_or]; exact h.nf r hr
  · intro x hx hd
    rw [dn_set hsz, Bool.or_eq_false_iff] at hd
    exact h.no x hx hd.2
/-- the heap that an operation may read: all that it waits for -/
theorem RD.Rel.baseJ (ok : R.OK P call ops tm nt H0) (h : R.Rel σ ops tm nt ds M0 H0 w0 l a w M q) {j : Nat} (hanc : ∀ k, R.anc j k = true → dn l k = true) {G : Tr Blk} (hG : G.get = addL (R.LJ j q) (R.Hs q).get) : HR M σ G.get w := by
  have hLJ : R.LJ j q = ((R.As.filter fun x => dn l x.1 && !R.mrg q x.1).filter fun x => R.anc j x.1).map (·.2) := by
    unfold RD.LJ
    rw [List.filter_filter]
    congr 1
    apply List.filter_congr
    intro x hx
    cases ha : R.anc j x.1 with
    | false => simp
    | true => rw [hanc _ ha]; simp
  have hsplit : R.HD (dn l) q = addL (((R.As.filter fun x => dn l x.1 && !R.mrg q x.1).filter fun x => !R.anc j x.1).map (·.2)) G.get := by
    rw [hG, hLJ]
    exact addL_split (fun x : Nat × Key × Blk => x.2) (ok.keysF _) (fun x => R.anc j x.1) (R.Hs q).get
  have hp := h.hp
  rw [hsplit] at hp
  refine hp.forgetL (by rw [List.filter_filter]; exact ok.keysL _) fun x hx => ?_
  obtain ⟨y, hy, rfl⟩ := List.mem_map.1 hx
  rw [List.mem_filter, List.mem_filter, Bool.and_eq_true] at hy
  rw [hG, addL_not, h.dead y hy.1.1 (by simpa using hy.1.2.2)]
  intro z hz e
  obtain ⟨u, hu, rfl⟩ := List.mem_map.1 hz
  rw [List.mem_filter] at hu
  have hzx : u = y := by
    have hn := ok.keys
    have key : ∀ (L : List (Nat × Key × Blk)), (L.map (fun x => x.2.1)).Nodup → u ∈ L → y ∈ L → u = y := by
      intro L
      induction L with
      | nil => intro _ h; cases h
      | cons x L ih =>
        intro hn h1 h2
        rw [List.map_cons, List.nodup_cons] at hn
        rcases List.mem_cons.1 h1 with rfl | h1' <;> rcases List.mem_cons.1 h2 with rfl | h2'
        · rfl
        · exact absurd (by rw [e]; exact List.mem_map_of_mem (f := fun x : Nat × Key × Blk => x.2.1) h2') hn.1
        · exact absurd (by rw [← e]; exact List.mem_map_of_mem (f := fun x : Nat × Key × Blk => x.2.1) h1') hn.1
        · exact ih hn.2 h1' h2'
    exact key _ hn hu.1 hy.1.1
  subst hzx
  have h1 := hy.2
  have h2 := hu.2
  cases ha : R.anc j u.1 <;> simp [ha] at h1 h2
/-- behind an operation that is not free to come up anywhere -/
theorem RD.Rel.next (ok : R.OK P call ops tm nt H0) (h : R.Rel σ ops tm nt ds M0 H0 w0 l a w M q) {j : Nat} {o : Oper} (ho : ops[j]? = some o) (hsz : j < l.size) (hdn : dn l j = false) (hanc : ∀ k, R.anc j k = true → dn l k = true)
    (hA : ∀ x ∈ R.As, x.1 ≠ j) {r : Nat} (hr : r < R.m) (hc : R.c r = j) {G : Tr Blk} (hG : G.get = addL (R.L1 r) (R.Hs r).get) :
    HR M σ G.get w ∧ ∀ u M' w', VR M' σ (R.val j) u → HR M' σ (R.Hs (r + 1)).get w' → Stp M G.get w M' (R.Hs (r + 1)).get w' → R.Rel σ ops tm nt ds M0 H0 w0 (l.setIfInBounds j true) (a.put o.dst u) w' M' (q + 1) := by
  have hrq : r = q := by
    have h1 : ¬ r < q := fun hlt => by have := (h.nf r hr).2 hlt; rw [hc, hdn] at this; cases this
    have h2 : ¬ q < r := fun hlt => by
      have h3 := ok.ord q r hlt hr
      rw [hc] at h3
      have := (h.nf q (by omega)).1 (hanc _ h3)
      omega
    omega
  subst hrq
  have hL1 : R.L1 r = ((R.As.filter fun x => dn l x.1 && !R.mrg r x.1).filter fun x => R.anc j x.1).map (·.2) := by
    unfold RD.L1
    rw [List.filter_filter]
    congr 1
    apply List.filter_congr
    intro x hx
    rw [hc]
    cases ha : R.anc j x.1 with
    | false => simp
    | true => rw [hanc _ ha]; simp
  have hpend : R.pend (dn (l.setIfInBounds j true)) (r + 1) = ((R.As.filter fun x => dn l x.1 && !R.mrg r x.1).filter fun x => !R.anc j x.1).map (·.2) := by
    unfold RD.pend
    rw [List.filter_filter]
    congr 1
    apply List.filter_congr
    intro x hx
    rw [dn_set hsz, mrg_succ, hc]
    have : decide (x.1 = j) = false := by simpa using hA x hx
    rw [this, Bool.false_or]
    cases dn l x.1 <;> cases R.mrg r x.1 <;> cases R.anc j x.1 <;> rfl
  have hsplit : R.HD (dn l) r = addL (R.pend (dn (l.setIfInBounds j true)) (r + 1)) G.get := by
    rw [hG, hL1, hpend]
    exact addL_split (fun x : Nat × Key × Blk => x.2) (ok.keysF _) (fun x => R.anc j x.1) (R.Hs r).get
  have hGdead : ∀ x ∈ R.As, R.mrg (r + 1) x.1 = false → G.get x.2.1 = some .dead := fun x hx hm => by
    rw [mrg_succ, Bool.or_eq_false_iff, hc] at hm
    rw [hG, addL_not, h.dead x hx hm.1]
    intro y hy e
    obtain ⟨z, hz, rfl⟩ := List.mem_map.1 hy
    rw [List.mem_filter] at hz
    have hzx : z = x := by
      have hn := ok.keys
      have key : ∀ (L : List (Nat × Key × Blk)), (L.map (fun x => x.2.1)).Nodup → z ∈ L → x ∈ L → z = x := by
        intro L
        induction L with
        | nil => intro _ h; cases h
        | cons y L ih =>
          intro hn h1 h2
          rw [List.map_cons, List.nodup_cons] at hn
          rcases List.mem_cons.1 h1 with rfl | h1' <;> rcases List.mem_cons.1 h2 with rfl | h2'
          · rfl
          · exact absurd (by rw [e]; exact List.mem_map_of_mem (f := fun x : Nat × Key × Blk => x.2.1) h2') hn.1
          · exact absurd (by rw [← e]; exact List.mem_map_of_mem (f := fun x : Nat × Key × Blk => x.2.1) h1') hn.1
          · exact ih hn.2 h1' h2'
      exact key _ hn hz.1 hx
    subst hzx
    rw [hc, hm.2] at hz
    simp at hz
  have hpd : ∀ x ∈ R.pend (dn (l.setIfInBounds j true)) (r + 1), x.2.live = true ∧ G.get x.1 = some .dead := fun x hx => by
    obtain ⟨y, hy, rfl⟩ := List.mem_map.1 hx
    rw [List.mem_filter, Bool.and_eq_true] at hy
    exact ⟨(ok.live y hy.1).1, hGdead y hy.1 (by simpa using hy.2.2)⟩
  have hp := h.hp
  have hst := h.st
  rw [hsplit] at hp hst
  refine ⟨hp.forgetL (ok.keysL _) fun x hx => (hpd x hx).2, fun u M' w' hu hH' hS' => ?_⟩
  obtain ⟨f1, f2⟩ := hp.framedL (ok.keysL _) hpd hS' hH'
  obtain ⟨p1, p2, p3, p4⟩ := h.put ok ho hsz hS'.le hu
  refine ⟨?_, by omega, ?_, p1, p2, p3, p4, f1, hst.trans f2, ?_, ?_⟩
  · intro i k hi hk
    rw [dn_set hsz] at hi ⊢
    by_cases e : i = j
    · subst e; simp [hanc k hk]
    · have : dn l i = true := by simpa [e] using hi
      simp [h.cl i k this hk]
  · intro s hs
    rw [dn_set hsz]
    by_cases e : s = r
    · subst e; simp [hc]
    · have hne : R.c s ≠ j := fun hcs => by
        rcases Nat.lt_or_gt_of_ne e with hlt | hgt
        · have := (h.nf s hs).2 hlt; rw [hcs, hdn] at this; cases this
        · have h3 := ok.ord r s hgt hs
          rw [hc, hcs] at h3
          have := hanc _ h3; rw [hdn] at this; cases this
      have : decide (R.c s = j) = false := by simpa using hne
      rw [this, Bool.false_or, h.nf s hs]
      omega
  · intro x hx hd
    rw [dn_set hsz, Bool.or_eq_false_iff] at hd
    cases hm : M' x.2.1 with
    | none => rfl
    | some p =>
      rcases hS'.fresh _ _ hm with h1 | h1
      · rw [h.no x hx hd.2] at h1; cases h1
      · have hmr : R.mrg (r + 1) x.1 = false := by
          cases hmm : R.mrg (r + 1) x.1 with
          | false => rfl
          | true =>
            unfold RD.mrg at hmm
            obtain ⟨s, hs, ha⟩ := List.any_eq_true.1 hmm
            rw [List.mem_range] at hs
            by_cases e : s = r
            · subst e; rw [hc] at ha; have := hanc _ ha; rw [hd.2] at this; cases this
            · have := h.cl _ _ ((h.nf s (by omega)).2 (by omega)) ha
              rw [hd.2] at this; cases this
        rw [hGdead x hx hmr] at h1; cases h1
  · intro x hx hm
    exact hS'.dead _ (hGdead x hx hm)

theorem RD.step (rd : Option Nat) (hcall : CallOK P σ call) (ok : R.OK P call ops tm nt H0) (htm : ∀ d x, evO tm (.tmp d) = some x → d < nt) (h : R.Rel σ ops tm nt ds M0 H0 w0 l a w M q) {j : Nat} (hj : j ∈ Region.ready .any ops l) :
    wpOpIn (FR rd) 0 P ops Q j (fun a' w' => ∃ M' q', R.Rel σ ops tm nt ds M0 H0 w0 (l.setIfInBounds j true) a' w' M' q') a w := by
  obtain ⟨hdn, hsz, o, ho, hanc, hfeas, hmrg⟩ := h.ready ok hj
  obtain ⟨hη0, hlt0⟩ := h.opd ok htm hdn hanc
  have hη : ∀ {ρ}, R.Sub ops tm j ρ → Opd M σ ρ a.eval := fun hs x y e => hη0 x y (hs x y e)
  have hlt : ∀ {ρ}, R.Sub ops tm j ρ → ∀ d x, ρ (.tmp d) = some x → d < a.tmps.size := fun hs d x e => hlt0 d x (hs _ _ e)
  unfold wpOpIn
  rw [ho]
  show if Region.wanted o (yielded ops a.tmps) = true then Oper.wpIn (FR rd) 0 P o a w _ Q else _
  generalize hKK : (fun (a' : Act) (w' : World) => ∃ M' q', R.Rel σ ops tm nt ds M0 H0 w0 (l.setIfInBounds j true) a' w' M' q') = K
  have hK : ∀ (a' : Act) (w' : World), (∃ M' q', R.Rel σ ops tm nt ds M0 H0 w0 (l.setIfInBounds j true) a' w' M' q') → K a' w' := fun a' w' h => by rw [← hKK]; exact h
  rcases ok.good j o ho with ⟨ρ, hρ, hw, hv, hnf, hA⟩ | ⟨ρ, hρ, hw, hnf, hA, hev⟩ | ⟨ρ, hρ, hw, hnf, b, mk, id, hA, hv, hev⟩ | ⟨ρ, hρ, hw, hA, r, hr, hc, G, nx, nx', hG, hev⟩ | ⟨ρ, hρ, hw, hA, r, hr, hc, G, nx, nx', hG, f, args, hev, hcl⟩
  · rw [wantR_ok rfl (hη hρ) (hlt hρ) hw]
    simp only [Bool.false_eq_true, if_false]
    exact ⟨fun f _ => FR_fn rd f, hK _ _ ⟨M, q, h.plain ok ho hsz hanc hnf hA (by rw [hv]; exact undef_vr)⟩⟩
  · rw [wantR_ok rfl (hη hρ) (hlt hρ) hw]
    simp only [if_true]
    obtain ⟨nx, G, hG, hev⟩ := hev q h.hq hfeas
    exact snd_wp hcall (nx := nx) (evOp_nodefer hev) (h.baseJ ok hanc hG) (evOp_ok (P := P) (h.baseJ ok hanc hG) (hη hρ) hev)
      (fun v' u he hvr => by cases he; exact hK _ _ ⟨M, q, h.plain ok ho hsz hanc hnf hA hvr⟩) (fun _ _ _ _ _ he => by cases he) (fun _ _ _ _ _ _ he => by cases he) (fun _ _ he => by cases he)
  · rw [wantR_ok rfl (hη hρ) (hlt hρ) hw]
    simp only [if_true]
    obtain ⟨nx, hev⟩ := hev q h.hq hfeas
    refine snd_wp hcall (nx := nx) (evOp_nodefer hev) (h.base ok) (evOp_ok (P := P) (h.base ok) (hη hρ) hev) (fun _ _ he => by cases he) (fun b' mk' ob n u he hbl hbr hmk => ?_) (fun _ _ _ _ _ _ he => by cases he) (fun _ _ he => by cases he)
    cases he
    have hM : M (key id) = none := h.no _ hA hdn
    have hk0 : H0 (key id) = none := (ok.live _ hA).2
    have hnew := h.hp.make (b := b) (n := n) (o := ob) hM (hbr _ (ins_le hM _))
    have hst := h.st.alloc hM hk0 b n ob
    have hHD : upd (R.HD (dn l) q) (key id) b = R.HD (dn (l.setIfInBounds j true)) q := by
      have hmem : (key id, b) ∈ R.pend (dn (l.setIfInBounds j true)) q :=
        List.mem_map.2 ⟨_, List.mem_filter.2 ⟨hA, by rw [dn_set hsz]; simp [hmrg]⟩, rfl⟩
      funext k
      by_cases e : k = key id
      · subst e
        rw [upd_same]; unfold RD.HD
        exact (addL_mem (ok.keysL _) hmem).symm
      · rw [upd_other _ _ e]
        unfold RD.HD
        by_cases hk : ∃ x ∈ R.pend (dn l) q, x.1 = k
        · obtain ⟨x, hx, rfl⟩ := hk
          refine (addL_mem (ok.keysL _) hx).trans (addL_mem (x := x) (ok.keysL _) ?_).symm
          obtain ⟨y, hy, rfl⟩ := List.mem_map.1 hx
          rw [List.mem_filter, Bool.and_eq_true] at hy
          exact List.mem_map.2 ⟨y, List.mem_filter.2 ⟨hy.1, by rw [dn_set hsz]; simp [hy.2.1, hy.2.2]⟩, rfl⟩
        · rw [addL_not fun x hx e' => hk ⟨x, hx, e'⟩, addL_not]
          intro x hx e'
          obtain ⟨y, hy, rfl⟩ := List.mem_map.1 hx
          rw [List.mem_filter, dn_set hsz, Bool.and_eq_true, Bool.or_eq_true] at hy
          rcases hy.2.1 with h1 | h1
          · have := ok.ids y hy.1 _ hA (by simpa using h1)
            subst this
            exact e e'.symm
          · exact hk ⟨y.2, List.mem_map.2 ⟨y, List.mem_filter.2 ⟨hy.1, by simp [h1, hy.2.2]⟩, rfl⟩, e'⟩
    rw [hHD] at hnew hst
    have hu : VR (ins M (key id) ⟨w.heap.size, 0, n⟩) σ (R.val j) u := by rw [hv]; exact hmk _ _ (ins_same _ _ _)
    obtain ⟨p1, p2, p3, p4⟩ := h.put ok ho hsz (ins_le hM _) hu
    refine hK _ _ ⟨_, q, ⟨?_, h.hq, ?_, p1, p2, p3, p4, hnew, hst, ?_, h.dead⟩⟩
    · intro i k hi hk
      rw [dn_set hsz] at hi ⊢
      by_cases e : i = j
      · subst e; simp [hanc k hk]
      · have : dn l i = true := by simpa [e] using hi
        simp [h.cl i k this hk]
    · intro r hr
      rw [dn_set hsz]
      have : decide (R.c r = j) = false := by simpa using hnf r hr
      rw [this, Bool.false_or]; exact h.nf r hr
    · intro x hx hd
      rw [dn_set hsz, Bool.or_eq_false_iff] at hd
      have hne : x.2.1 ≠ key id := by
        intro e
        have hn := ok.keys
        have hxj : x.1 ≠ j := by simpa using hd.1
        have key : ∀ (L : List (Nat × Key × Blk)) (y : Nat × Key × Blk), (L.map (fun x => x.2.1)).Nodup → x ∈ L → y ∈ L → x.2.1 = y.2.1 → x = y := by
          intro L y
          induction L with
          | nil => intro _ h; cases h
          | cons z L ih =>
            intro hn h1 h2 e
            rw [List.map_cons, List.nodup_cons] at hn
            rcases List.mem_cons.1 h1 with rfl | h1' <;> rcases List.mem_cons.1 h2 with rfl | h2'
            · rfl
            · exact absurd (by rw [e]; exact List.mem_map_of_mem (f := fun x : Nat × Key × Blk => x.2.1) h2') hn.1
            · exact absurd (by rw [← e]; exact List.mem_map_of_mem (f := fun x : Nat × Key × Blk => x.2.1) h1') hn.1
            · exact ih hn.2 h1' h2' e
        have := key R.As _ hn hx hA e
        subst this
        exact hxj rfl
      simp only [ins, hne, if_false]
      exact h.no x hx hd.2
  · rw [wantR_ok rfl (hη hρ) (hlt hρ) hw]
    simp only [if_true]
    obtain ⟨hG1, hG2⟩ := h.next ok ho hsz hdn hanc hA hr hc hG
    refine snd_wp hcall (nx := nx) (evOp_nodefer hev) hG1 (evOp_ok (P := P) hG1 (hη hρ) hev) (fun _ _ he => by cases he) (fun _ _ _ _ _ he => by cases he) (fun v' H' nx'' u M' w' he hvr hH hs => ?_) (fun _ _ he => by cases he)
    cases he
    exact hK _ _ ⟨M', q + 1, hG2 u M' w' hvr hH hs⟩
  · rw [wantR_ok rfl (hη hρ) (hlt hρ) hw]
    simp only [if_true]
    obtain ⟨hG1, hG2⟩ := h.next ok ho hsz hdn hanc hA hr hc hG
    refine snd_wp hcall (nx := nx) (evOp_nodefer hev) hG1 (evOp_ok (P := P) hG1 (hη hρ) hev) (fun _ _ he => by cases he) (fun _ _ _ _ _ he => by cases he) (fun _ _ _ _ _ _ he => by cases he) (fun t' args' he => ?_)
    cases he
    exact ⟨_, _, _, hcl, fun u M' w' hvr hH hs => hK _ _ ⟨M', q + 1, hG2 u M' w' hvr hH hs⟩⟩
/-- how many have not come up -/
def left (l : Array Bool) : Nat → Nat
  | 0 => 0
  | n + 1 => left l n + (match dn l n with | true => 0 | false => 1)
theorem left_set {l : Array Bool} {j : Nat} (hj : j < l.size) (hd : dn l j = false) : ∀ n, left (l.setIfInBounds j true) n + (if j < n then 1 else 0) = left l n
  | 0 => by simp [left]
  | n + 1 => by
    have ih := left_set hj hd n
    simp only [left, dn_set hj]
    by_cases e : n = j
    · subst e
      simp only [hd]
      simp at ih ⊢
      omega
    · have h1 : (decide (n = j)) = false := by simpa using e
      rw [h1, Bool.false_or]
      by_cases h2 : j < n
      · rw [if_pos h2] at ih
        rw [if_pos (by omega)]
        omega
      · rw [if_neg h2] at ih
        rw [if_neg (by omega)]
        omega
theorem left_zero {l : Array Bool} : ∀ {n : Nat}, left l n = 0 → ∀ j, j < n → dn l j = true
  | n + 1, h, j, hj => by
    simp only [left] at h
    cases hd : dn l n with
    | true =>
      rcases Nat.lt_or_eq_of_le (Nat.le_of_lt_succ hj) with h1 | rfl
      · exact left_zero (by omega) j h1
      · exact hd
    | false => rw [hd] at h; simp at h
theorem RD.all (rd : Option Nat) (hcall : CallOK P σ call) (ok : R.OK P call ops tm nt H0) (htm : ∀ d x, evO tm (.tmp d) = some x → d < nt)
    (hQ : ∀ l a w M q, R.Rel σ ops tm nt ds M0 H0 w0 l a w M q → (∀ j, j < ops.size → dn l j = true) → Q .normal a w) : ∀ (fuel : Nat) {l : Array Bool} {a : Act} {w : World} {M : Mp} {q : Nat},
    l.size = ops.size → left l ops.size ≤ fuel → R.Rel σ ops tm nt ds M0 H0 w0 l a w M q → wpAnyIn (FR rd) 0 P .any ops Q fuel l a w := by
  intro fuel
  have hnone : ∀ {l : Array Bool} {a : Act} {w : World} {M : Mp} {q : Nat}, R.Rel σ ops tm nt ds M0 H0 w0 l a w M q → l.size = ops.size → Region.ready .any ops l = [] → Q .normal a w := by
    intro l a w M q h hsz hr
    refine hQ l a w M q h fun j hj => ?_
    cases hd : dn l j with
    | true => rfl
    | false =>
      obtain ⟨i, o, ho, hi, hall⟩ := ok.perm (dn l) ⟨j, hj, hd⟩
      have hlt := (Array.getElem?_eq_some_iff.1 ho).1
      have : i ∈ Region.ready .any ops l := mem_ready.2 ⟨by
        unfold dn at hi
        rw [← hsz] at hlt
        simp [hlt] at hi ⊢; exact hi, o, ho, fun e he hb => hall e he hb⟩
      rw [hr] at this; cases this
  induction fuel with
  | zero =>
    intro l a w M q hsz hl h
    have hd := left_zero (Nat.le_zero.1 hl)
    refine ⟨?_, hQ l a w M q h hd⟩
    refine List.eq_nil_iff_forall_not_mem.2 fun j hj => ?_
    obtain ⟨h1, h2, -⟩ := h.ready ok hj
    rw [hd j (by omega)] at h1; cases h1
  | succ fuel ih =>
    intro l a w M q hsz hl h
    refine ⟨hnone h hsz, fun j hj => ?_⟩
    obtain ⟨h1, h2, -⟩ := h.ready ok hj
    refine wpOpIn_mono ?_ (RD.step rd hcall ok htm h hj)
    rintro a' w' ⟨M', q', h'⟩
    refine ih (by simp [hsz]) ?_ h'
    have := left_set h2 h1 ops.size
    rw [if_pos (by omega)] at this
    omega
end
end Go.Proofs.YtlpepmhpnmnpkaaDoor.Ev
