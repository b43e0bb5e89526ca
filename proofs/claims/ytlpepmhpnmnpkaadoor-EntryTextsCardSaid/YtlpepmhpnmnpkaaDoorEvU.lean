/-
  A checked evaluator, part U: the evaluation of a region whose order is open.
-/
import Derived.Test.YtlpepmhpnmnpkaaDoorEvS
set_option linter.unusedVariables false
set_option linter.unusedSimpArgs false
set_option linter.unusedSectionVars false
namespace Go.Proofs.YtlpepmhpnmnpkaaDoor.Ev
open Go Go.RowKit
variable [Tab]

def owner (ops : List Oper) (t : Tmp) : Option Nat := (List.range ops.length).find? fun i => (ops[i]?).any (·.dst == some t)
def valOf (V : Tr (Nat × Value)) (j : Nat) : Value := match evO V (.tmp j) with | some v => v | none => undef
def setV (V : Tr (Nat × Value)) (j : Nat) (v : Value) : Tr (Nat × Value) := V.set (key j) (j, v)
def roE (ops : List Oper) (tm : Tr (Nat × Value)) (ancs : List Nat) (V : Tr (Nat × Value)) (j : Nat) : Operand → Option Value
  | .tmp t => match owner ops t with
    | none => evO tm (.tmp t)
    | some i => match (ancs.getD j 0).testBit i with
      | true => evO V (.tmp i)
      | false => match (ancs.getD i 0).testBit j || i == j with
        | true => evO tm (.tmp t)
        | false => none
  | x => evO tm x
structure DS where
  V : Tr (Nat × Value)
  cs : List Nat
  hs : List (Tr Blk)
  As : List (Nat × Key × Blk)
  H : Tr Blk
  mg : Nat
  done : Nat
  nx : Nat
def isA : Op → Bool
  | .alloc .. | .box .. | .buildSlice .. | .makeSlice .. | .makeMap .. => true
  | _ => false
def mergeE (L : List (Nat × Key × Blk)) (H : Tr Blk) : Tr Blk := L.foldr (fun x H => H.set x.2.1 x.2.2) H
def stepD (P : Program) (call : CallE) (ops : List Oper) (tm : Tr (Nat × Value)) (ancs : List Nat) (nx0 j : Nat) (d : DS) : Option DS :=
  match ops[j]? with
  | none => none
  | some o => match d.done.testBit j, sub (ancs.getD j 0) d.done, d.V.get (key j) with
    | false, true, none => match wantR ops (roE ops tm ancs d.V j) o with
      | some false => some { d with V := setV d.V j undef, done := Nat.lor d.done (2 ^ j) }
      | some true => match isNFP P o.op with
        | false => match evOp P o (roE ops tm ancs d.V j) (match isRead o.op with | true => mergeE (d.As.filter fun x => (ancs.getD j 0).testBit x.1 && !d.mg.testBit x.1) d.H | false => d.H) d.nx with
          | some (.pure v) => some { d with V := setV d.V j v, done := Nat.lor d.done (2 ^ j) }
          | some (.new b mk) => match isA o.op, isRead o.op, b.live with
            | true, false, true => some { d with V := setV d.V j (mk (nx0 + j)), As := (j, key (nx0 + j), b) :: d.As, done := Nat.lor d.done (2 ^ j) }
            | _, _, _ => none
          | _ => none
        | true => match d.cs.all fun c => (ancs.getD j 0).testBit c with
          | true => match evOp P o (roE ops tm ancs d.V j) (mergeE (d.As.filter fun x => (ancs.getD j 0).testBit x.1 && !d.mg.testBit x.1) d.H) d.nx with
            | some (.upd v H nx) => some ⟨setV d.V j v, j :: d.cs, H :: d.hs, d.As, H, Nat.lor d.mg (ancs.getD j 0), Nat.lor d.done (2 ^ j), nx⟩
            | some (.call f args) => match call f args (mergeE (d.As.filter fun x => (ancs.getD j 0).testBit x.1 && !d.mg.testBit x.1) d.H) d.nx with
              | some (v, H, nx) => some ⟨setV d.V j v, j :: d.cs, H :: d.hs, d.As, H, Nat.lor d.mg (ancs.getD j 0), Nat.lor d.done (2 ^ j), nx⟩
              | none => none
            | _ => none
          | false => none
      | none => none
    | _, _, _ => none
def runD (P : Program) (call : CallE) (ops : List Oper) (tm : Tr (Nat × Value)) (ancs : List Nat) (nx0 : Nat) : List Nat → DS → Option DS
  | [], d => some d
  | j :: l, d => match stepD P call ops tm ancs nx0 j d with
    | some d => runD P call ops tm ancs nx0 l d
    | none => none
def mkRD (ancs : List Nat) (d : DS) : RD := ⟨valOf d.V, d.As, d.cs.length, fun r => d.cs.reverse.getD r 0, fun q => d.hs.reverse.getD q .leaf, fun j k => (ancs.getD j 0).testBit k⟩

section
variable {P : Program} {call : CallE} {ops : List Oper} {opa : Array Oper} {tm : Tr (Nat × Value)} {ancs : List Nat} {nx0 : Nat} {d d' dF : DS}
structure DInv (ops : List Oper) (ancs : List Nat) (nx0 : Nat) (d : DS) : Prop where
  len : d.hs.length = d.cs.length + 1
  head : d.hs.head? = some d.H
  mg : ∀ i, d.mg.testBit i = true ↔ ∃ c ∈ d.cs, (ancs.getD c 0).testBit i = true
  asi : ∀ x ∈ d.As, d.done.testBit x.1 = true ∧ (∃ o, ops[x.1]? = some o ∧ isA o.op = true) ∧ x.2.1 = key (nx0 + x.1) ∧ x.2.2.live = true
  cs : ∀ c ∈ d.cs, d.done.testBit c = true ∧ c < ops.length
  ord : d.cs.Pairwise fun s r => (ancs.getD s 0).testBit r = true
  ids : d.As.Pairwise fun x y => x.1 ≠ y.1
  vs : ∀ i v, evO d.V (.tmp i) = some v → d.done.testBit i = true
structure DExt (d d' : DS) : Prop where
  ase : ∃ A, d'.As = A ++ d.As ∧ ∀ x ∈ A, d.done.testBit x.1 = false
  cs : ∃ C S, d'.cs = C ++ d.cs ∧ d'.hs = S ++ d.hs ∧ S.length = C.length ∧ ∀ c ∈ C, d.done.testBit c = false
  vs : ∀ i v, evO d.V (.tmp i) = some v → evO d'.V (.tmp i) = some v
  done : ∀ i, d.done.testBit i = true → d'.done.testBit i = true
theorem DExt.refl (d : DS) : DExt d d := ⟨⟨[], rfl, by simp⟩, ⟨[], [], rfl, rfl, rfl, by simp⟩, fun _ _ h => h, fun _ h => h⟩
theorem DExt.trans (h : DExt d d') (k : DExt d' dF) : DExt d dF := by
  obtain ⟨A, hA, hA'⟩ := h.ase
  obtain ⟨B, hB, hB'⟩ := k.ase
  obtain ⟨C, S, hC, hS, hl, hC'⟩ := h.cs
  obtain ⟨C2, S2, hC2, hS2, hl2, hC2'⟩ := k.cs
  have hno : ∀ i, d'.done.testBit i = false → d.done.testBit i = false := fun i hi => by
    cases hd : d.done.testBit i with
    | false => rfl
    | true => rw [h.done i hd] at hi; cases hi
  refine ⟨⟨B ++ A, by rw [hB, hA, List.append_assoc], fun x hx => ?_⟩, ⟨C2 ++ C, S2 ++ S, by rw [hC2, hC, List.append_assoc], by rw [hS2, hS, List.append_assoc], by simp [hl, hl2], fun c hc => ?_⟩, fun i v e => k.vs i v (h.vs i v e), fun i e => k.done i (h.done i e)⟩
  · rcases List.mem_append.1 hx with hx | hx
    · exact hno _ (hB' x hx)
    · exact hA' x hx
  · rcases List.mem_append.1 hc with hc | hc
    · exact hno _ (hC2' c hc)
    · exact hC' c hc
theorem lor_self {d j : Nat} : (Nat.lor d (2 ^ j)).testBit j = true := by
  show (d ||| 2 ^ j).testBit j = true
  rw [Nat.testBit_or, Nat.testBit_two_pow]; simp
theorem lor_left {d e i : Nat} (h : d.testBit i = true) : (Nat.lor d e).testBit i = true := by
  show (d ||| e).testBit i = true
  rw [Nat.testBit_or, h]; rfl
theorem lor_iff {d e i : Nat} : (Nat.lor d e).testBit i = true ↔ d.testBit i = true ∨ e.testBit i = true := by
  show (d ||| e).testBit i = true ↔ _
  rw [Nat.testBit_or, Bool.or_eq_true]
theorem evO_get {V : Tr (Nat × Value)} {i : Nat} {w : Value} (h : evO V (.tmp i) = some w) : V.get (key i) = some (i, w) := by
  simp only [evO, opK] at h
  split at h
  · rename_i t x ht
    split at h
    · rename_i hb
      cases h
      rw [ht, Nat.eq_of_beq_eq_true hb]
    · cases h
  · cases h
theorem evO_of {V : Tr (Nat × Value)} {i : Nat} {w : Value} (h : V.get (key i) = some (i, w)) : evO V (.tmp i) = some w := by
  simp [evO, opK, h]
theorem evO_setV {V : Tr (Nat × Value)} {i j : Nat} {v w : Value} (h : evO V (.tmp i) = some w) (hj : V.get (key j) = none) : evO (setV V j v) (.tmp i) = some w := by
  have hg := evO_get h
  have hne : key i ≠ key j := fun e => by rw [e, hj] at hg; cases hg
  exact evO_of (by rw [setV, Tr.get_set_other _ _ hne]; exact hg)
theorem evO_setV_same {V : Tr (Nat × Value)} {j : Nat} {v : Value} : evO (setV V j v) (.tmp j) = some v := evO_of (Tr.get_set_same _ _ _)
theorem evO_setV_inv {V : Tr (Nat × Value)} {i j : Nat} {v w : Value} (h : evO (setV V j v) (.tmp i) = some w) : i = j ∨ evO V (.tmp i) = some w := by
  have hg := evO_get h
  rw [setV, Tr.get_set] at hg
  split at hg
  · cases hg; exact .inl rfl
  · exact .inr (evO_of hg)
theorem roE_sub (hops : opa.toList = ops) (hx : DExt d dF) (j : Nat) : (mkRD ancs dF).Sub opa tm j (roE ops tm ancs d.V j) := by
  intro x y e
  cases x with
  | tmp t =>
    have howner : ((List.range opa.size).find? fun i => (opa[i]?).any (·.dst == some t)) = owner ops t := by
      unfold owner
      rw [← hops]
      simp
    simp only [roE] at e
    simp only [RD.ro]
    rw [howner]
    split at e
    · rename_i h1; rw [h1]; exact e
    · rename_i i h1
      rw [h1]
      simp only [mkRD]
      split at e
      · rename_i h2
        rw [h2]
        simp [valOf, hx.vs i y e]
      · rename_i h2
        rw [h2]
        split at e
        · rename_i h3; rw [h3]; exact e
        · cases e
  | const v => exact e
  | func f => exact e
  | global g => exact e
theorem mergeE_get (L : List (Nat × Key × Blk)) (H : Tr Blk) : (mergeE L H).get = addL (L.map (·.2)) H.get := by
  induction L with
  | nil => rfl
  | cons x L ih =>
    show ((mergeE L H).set x.2.1 x.2.2).get = upd (addL (L.map (·.2)) H.get) x.2.1 x.2.2
    rw [Tr.get_upd, ih]
/-- what is known at the end of what comes up now -/
inductive DGood (P : Program) (call : CallE) (opa : Array Oper) (tm : Tr (Nat × Value)) (ancs : List Nat) (dF : DS) (j : Nat) (o : Oper) : Prop where
  | good (h : (mkRD ancs dF).Good P call opa tm j o)
  | read (h0 : isNFP P o.op = false) (h1 : isRead o.op = true) (h2 : ∀ c ∈ dF.cs, c ≠ j) (h3 : ∀ x ∈ dF.As, x.1 ≠ j)
theorem mkRD_c (hx : DExt d dF) {r : Nat} (hr : r < d.cs.length) : (mkRD ancs dF).c r = d.cs.reverse.getD r 0 := by
  obtain ⟨C, S, hC, hS, hl, hC'⟩ := hx.cs
  simp only [mkRD, hC, List.reverse_append]
  rw [List.getD_eq_getElem?_getD, List.getElem?_append_left (by simpa using hr), ← List.getD_eq_getElem?_getD]
theorem mkRD_m (hx : DExt d dF) : d.cs.length ≤ (mkRD ancs dF).m := by
  obtain ⟨C, S, hC, hS, hl, hC'⟩ := hx.cs
  simp [mkRD, hC]
theorem mkRD_Hs (hx : DExt d dF) {q : Nat} (hq : q < d.hs.length) : (mkRD ancs dF).Hs q = d.hs.reverse.getD q .leaf := by
  obtain ⟨C, S, hC, hS, hl, hC'⟩ := hx.cs
  simp only [mkRD, hS, List.reverse_append]
  rw [List.getD_eq_getElem?_getD, List.getElem?_append_left (by simpa using hq), ← List.getD_eq_getElem?_getD]
theorem mkRD_cs {r : Nat} (hr : r < (mkRD ancs dF).m) : (mkRD ancs dF).c r ∈ dF.cs := by
  simp only [mkRD] at hr ⊢
  rw [List.getD_eq_getElem?_getD, List.getElem?_eq_getElem (by simpa using hr)]
  simp only [Option.getD_some]
  exact List.mem_reverse.1 (List.getElem_mem _)

theorem not_mem_cs (hi : DInv ops ancs nx0 d) (hx : DExt d' dF) (hd' : d'.cs = d.cs) {j : Nat} (h1 : d.done.testBit j = false) (h2 : d'.done.testBit j = true) : ∀ c ∈ dF.cs, c ≠ j := by
  intro c hc e
  subst e
  obtain ⟨C, S, hC, -, -, hC'⟩ := hx.cs
  rw [hC, hd'] at hc
  rcases List.mem_append.1 hc with hc | hc
  · rw [hC' _ hc] at h2; cases h2
  · rw [(hi.cs _ hc).1] at h1; cases h1
theorem not_mem_as (hi : DInv ops ancs nx0 d) (hx : DExt d' dF) (hd' : d'.As = d.As) {j : Nat} (h1 : d.done.testBit j = false) (h2 : d'.done.testBit j = true) : ∀ x ∈ dF.As, x.1 ≠ j := by
  intro x hxm e
  subst e
  obtain ⟨A, hA, hA'⟩ := hx.ase
  rw [hA, hd'] at hxm
  rcases List.mem_append.1 hxm with hc | hc
  · rw [hA' _ hc] at h2; cases h2
  · rw [(hi.asi _ hc).1] at h1; cases h1
/-- the bookkeeping of a step that is free to come up anywhere -/
theorem flex_inv (hi : DInv ops ancs nx0 d) {j : Nat} (hdn : d.done.testBit j = false) (hV : d.V.get (key j) = none) (v : Value) :
    DExt d { d with V := setV d.V j v, done := Nat.lor d.done (2 ^ j) } ∧ DInv ops ancs nx0 { d with V := setV d.V j v, done := Nat.lor d.done (2 ^ j) } :=
  ⟨⟨⟨[], rfl, by simp⟩, ⟨[], [], rfl, rfl, rfl, by simp⟩, fun i w h => evO_setV h hV, fun i h => lor_left h⟩,
   ⟨hi.len, hi.head, hi.mg, fun x hx => let ⟨h1, h2⟩ := hi.asi x hx; ⟨lor_left h1, h2⟩, fun c hc => let ⟨h1, h2⟩ := hi.cs c hc; ⟨lor_left h1, h2⟩, hi.ord, hi.ids, fun i w h => by
      rcases evO_setV_inv h with rfl | h
      · exact lor_self
      · exact lor_left (hi.vs i w h)⟩⟩
theorem mrg_eq (hi : DInv ops ancs nx0 d) (hx : DExt d dF) (i : Nat) : (mkRD ancs dF).mrg d.cs.length i = d.mg.testBit i := by
  rw [Bool.eq_iff_iff, hi.mg]
  unfold RD.mrg
  rw [List.any_eq_true]
  constructor
  · rintro ⟨s, hs, ha⟩
    rw [List.mem_range] at hs
    rw [mkRD_c hx hs] at ha
    refine ⟨_, ?_, ha⟩
    rw [List.getD_eq_getElem?_getD, List.getElem?_eq_getElem (by simpa using hs)]
    simp only [Option.getD_some]
    exact List.mem_reverse.1 (List.getElem_mem _)
  · rintro ⟨c, hc, ha⟩
    obtain ⟨s, hs, rfl⟩ := List.mem_iff_getElem.1 (List.mem_reverse.2 hc)
    have hs' : s < d.cs.length := by simpa using hs
    refine ⟨s, List.mem_range.2 hs', ?_⟩
    rw [mkRD_c hx hs', List.getD_eq_getElem?_getD, List.getElem?_eq_getElem hs]
    exact ha
theorem nf_inv (hi : DInv ops ancs nx0 d) {j : Nat} (hj : j < ops.length) (hdn : d.done.testBit j = false) (hV : d.V.get (key j) = none) (hall : (d.cs.all fun c => (ancs.getD j 0).testBit c) = true) (v : Value) (H : Tr Blk) (nx : Nat) :
    DExt d ⟨setV d.V j v, j :: d.cs, H :: d.hs, d.As, H, Nat.lor d.mg (ancs.getD j 0), Nat.lor d.done (2 ^ j), nx⟩ ∧ DInv ops ancs nx0 ⟨setV d.V j v, j :: d.cs, H :: d.hs, d.As, H, Nat.lor d.mg (ancs.getD j 0), Nat.lor d.done (2 ^ j), nx⟩ := by
  refine ⟨⟨⟨[], rfl, by simp⟩, ⟨[j], [H], rfl, rfl, rfl, by simpa using hdn⟩, fun i w h => evO_setV h hV, fun i h => lor_left h⟩, ⟨by simp [hi.len], rfl, fun i => ?_, fun x hx => let ⟨h1, h2⟩ := hi.asi x hx; ⟨lor_left h1, h2⟩, fun c hc => ?_, ?_, hi.ids, fun i w h => ?_⟩⟩
  · rw [lor_iff, hi.mg]
    constructor
    · rintro (⟨c, hc, h⟩ | h)
      · exact ⟨c, by simp [hc], h⟩
      · exact ⟨j, by simp, h⟩
    · rintro ⟨c, hc, h⟩
      rcases List.mem_cons.1 hc with rfl | hc
      · exact .inr h
      · exact .inl ⟨c, hc, h⟩
  · rcases List.mem_cons.1 hc with rfl | hc
    · exact ⟨lor_self, hj⟩
    · obtain ⟨h1, h2⟩ := hi.cs c hc
      exact ⟨lor_left h1, h2⟩
  · exact List.pairwise_cons.2 ⟨fun c hc => List.all_eq_true.1 hall c hc, hi.ord⟩
  · rcases evO_setV_inv h with rfl | h
    · exact lor_self
    · exact lor_left (hi.vs i w h)
theorem nf_good (hi : DInv ops ancs nx0 d) {j : Nat} (hdn : d.done.testBit j = false) (hsub : sub (ancs.getD j 0) d.done = true) {v : Value} {H : Tr Blk} {nx : Nat}
    (hd' : d' = ⟨setV d.V j v, j :: d.cs, H :: d.hs, d.As, H, Nat.lor d.mg (ancs.getD j 0), Nat.lor d.done (2 ^ j), nx⟩) (he : DExt d d') (hx : DExt d' dF) :
    (∀ x ∈ dF.As, x.1 ≠ j) ∧ d.cs.length < (mkRD ancs dF).m ∧ (mkRD ancs dF).c d.cs.length = j ∧ (mkRD ancs dF).Hs (d.cs.length + 1) = H ∧ (mkRD ancs dF).val j = v ∧
    (mergeE (d.As.filter fun x => (ancs.getD j 0).testBit x.1 && !d.mg.testBit x.1) d.H).get = addL ((mkRD ancs dF).L1 d.cs.length) ((mkRD ancs dF).Hs d.cs.length).get := by
  have hlen : d'.cs.length = d.cs.length + 1 := by rw [hd']; rfl
  have hdj : d'.done.testBit j = true := by rw [hd']; exact lor_self
  have hc : (mkRD ancs dF).c d.cs.length = j := by
    rw [mkRD_c hx (by omega), hd']
    simp [List.getD_eq_getElem?_getD]
  have hH : (mkRD ancs dF).Hs d.cs.length = d.H := by
    have hl := hi.len
    rw [mkRD_Hs hx (by rw [hd']; simp; omega), hd']
    have hh := hi.head
    match hhs : d.hs, hl, hh with
    | x :: xs, hl, hh =>
      simp at hl hh
      subst hh
      simp only [List.reverse_cons, List.append_assoc]
      rw [List.getD_eq_getElem?_getD, List.getElem?_append_right (by simp; omega)]
      simp [← hl]
  have hH1 : (mkRD ancs dF).Hs (d.cs.length + 1) = H := by
    have hl := hi.len
    rw [mkRD_Hs hx (by rw [hd']; simp; omega), hd']
    simp only [List.reverse_cons]
    rw [List.getD_eq_getElem?_getD, List.getElem?_append_right (by simp; omega)]
    simp [hl]
  refine ⟨not_mem_as (d' := d') hi hx (by rw [hd']) hdn hdj, Nat.lt_of_lt_of_le (by omega) (mkRD_m hx), hc, hH1, ?_, ?_⟩
  · have : evO d'.V (.tmp j) = some v := by rw [hd']; exact evO_setV_same
    simp only [mkRD, valOf, hx.vs j v this]
  · rw [mergeE_get, hH]
    congr 1
    unfold RD.L1
    rw [hc]
    obtain ⟨A, hA, hA'⟩ := (he.trans hx).ase
    show _ = (List.filter _ dF.As).map _
    rw [hA, List.filter_append]
    have hnil : (A.filter fun x => (mkRD ancs dF).anc j x.1 && !(mkRD ancs dF).mrg d.cs.length x.1) = [] := by
      rw [List.filter_eq_nil_iff]
      intro x hxA hp
      rw [Bool.and_eq_true] at hp
      have := sub_spec hsub hp.1
      rw [hA' x hxA] at this; cases this
    rw [hnil, List.nil_append]
    congr 1
    apply List.filter_congr
    intro x hxm
    rw [mrg_eq hi (he.trans hx)]
    rfl
theorem stepD_ok (hops : opa.toList = ops) (hi : DInv ops ancs nx0 d) {j : Nat} (h : stepD P call ops tm ancs nx0 j d = some d') :
    DExt d d' ∧ DInv ops ancs nx0 d' ∧ (∀ i, d'.done.testBit i = true → d.done.testBit i = true ∨ i = j) ∧ ∀ dF, DExt d' dF → ∃ o, ops[j]? = some o ∧ DGood P call opa tm ancs dF j o := by
  have hdone : ∀ i, (Nat.lor d.done (2 ^ j)).testBit i = true → d.done.testBit i = true ∨ i = j := fun i h => (lor_bit h).imp id Eq.symm
  unfold stepD at h
  split at h
  · cases h
  · rename_i o ho
    have hj : j < ops.length := (List.getElem?_eq_some_iff.1 ho).1
    split at h
    · rename_i hdn hsub hV
      split at h
      · rename_i hw
        cases h
        obtain ⟨e1, e2⟩ := flex_inv hi hdn hV undef
        refine ⟨e1, e2, hdone, fun dF hx => ⟨o, ho, .good (.skip _ (roE_sub hops (e1.trans hx) j) (by rw [hops]; exact hw) ?_ ?_ ?_)⟩⟩
        · have : evO (setV d.V j undef) (.tmp j) = some undef := evO_setV_same
          simp only [mkRD, valOf, hx.vs j _ this]
        · exact fun r hr => not_mem_cs hi hx rfl hdn lor_self _ (mkRD_cs hr)
        · exact not_mem_as hi hx rfl hdn lor_self
      · rename_i hw
        split at h
        · rename_i hnf
          split at h
          · rename_i v hev
            cases h
            obtain ⟨e1, e2⟩ := flex_inv hi hdn hV v
            refine ⟨e1, e2, hdone, fun dF hx => ⟨o, ho, ?_⟩⟩
            cases hr : isRead o.op with
            | true => exact .read hnf hr (not_mem_cs hi hx rfl hdn lor_self) (not_mem_as hi hx rfl hdn lor_self)
            | false =>
              refine .good (.pure _ (roE_sub hops (e1.trans hx) j) (by rw [hops]; exact hw) (fun r hr => not_mem_cs hi hx rfl hdn lor_self _ (mkRD_cs hr)) (not_mem_as hi hx rfl hdn lor_self) fun q _ _ => ⟨d.nx, mergeE (dF.As.filter fun x => (ancs.getD j 0).testBit x.1 && !(mkRD ancs dF).mrg q x.1) ((mkRD ancs dF).Hs q), by rw [mergeE_get]; rfl, ?_⟩)
              simp only [hr] at hev
              have hv : (mkRD ancs dF).val j = v := by
                have : evO (setV d.V j v) (.tmp j) = some v := evO_setV_same
                simp only [mkRD, valOf, hx.vs j _ this]
              rw [hv, heapless hnf hr _ _ d.H _ d.nx]
              exact hev
          · rename_i b mk hev
            split at h
            · rename_i hA hr hbl
              cases h
              simp only [hr] at hev
              obtain ⟨e1, e2⟩ := flex_inv hi hdn hV (mk (nx0 + j))
              have e1' : DExt d { d with V := setV d.V j (mk (nx0 + j)), As := (j, key (nx0 + j), b) :: d.As, done := Nat.lor d.done (2 ^ j) } :=
                ⟨⟨[(j, key (nx0 + j), b)], rfl, by simpa using hdn⟩, e1.cs, e1.vs, e1.done⟩
              refine ⟨e1', ⟨e2.len, e2.head, e2.mg, ?_, e2.cs, e2.ord, ?_, e2.vs⟩, hdone, fun dF hx => ⟨o, ho, .good (.new _ (roE_sub hops (e1'.trans hx) j) (by rw [hops]; exact hw) ?_ b mk (nx0 + j) ?_ ?_ fun q _ _ => ⟨d.nx, ?_⟩)⟩⟩
              · intro x hx
                rcases List.mem_cons.1 hx with rfl | hx
                · exact ⟨lor_self, ⟨o, ho, hA⟩, rfl, hbl⟩
                · exact e2.asi x hx
              · refine List.pairwise_cons.2 ⟨fun x hx e => ?_, hi.ids⟩
                have := (hi.asi x hx).1
                rw [← e, hdn] at this; cases this
              · exact fun r hr => not_mem_cs hi hx rfl hdn lor_self _ (mkRD_cs hr)
              · obtain ⟨A, hA, -⟩ := hx.ase
                show _ ∈ dF.As
                rw [hA]; simp
              · have : evO (setV d.V j (mk (nx0 + j))) (.tmp j) = some (mk (nx0 + j)) := evO_setV_same
                simp only [mkRD, valOf, hx.vs j _ this]
              · rw [heapless hnf hr _ _ d.H _ d.nx]
                exact hev
            · cases h
          · cases h
        · rename_i hnf
          split at h
          · rename_i hall
            split at h
            · rename_i v H nx hev
              cases h
              obtain ⟨e1, e2⟩ := nf_inv hi hj hdn hV hall v H nx
              refine ⟨e1, e2, hdone, fun dF hx => ⟨o, ho, ?_⟩⟩
              obtain ⟨g1, g2, g3, g4, g5, g6⟩ := nf_good hi hdn hsub rfl e1 hx
              exact .good (.upd _ (roE_sub hops (e1.trans hx) j) (by rw [hops]; exact hw) g1 _ g2 g3 _ d.nx nx g6 (by rw [g4, g5]; exact hev))
            · rename_i f args hev
              split at h
              · rename_i v H nx hcl
                cases h
                obtain ⟨e1, e2⟩ := nf_inv hi hj hdn hV hall v H nx
                refine ⟨e1, e2, hdone, fun dF hx => ⟨o, ho, ?_⟩⟩
                obtain ⟨g1, g2, g3, g4, g5, g6⟩ := nf_good hi hdn hsub rfl e1 hx
                exact .good (.call _ (roE_sub hops (e1.trans hx) j) (by rw [hops]; exact hw) g1 _ g2 g3 _ d.nx nx g6 f args hev (by rw [g4, g5]; exact hcl))
              · cases h
            · cases h
          · cases h
      · cases h
    · cases h
theorem runD_ok (hops : opa.toList = ops) : ∀ (l : List Nat) {d : DS}, DInv ops ancs nx0 d → runD P call ops tm ancs nx0 l d = some dF →
    DExt d dF ∧ DInv ops ancs nx0 dF ∧ ∀ i, dF.done.testBit i = true → d.done.testBit i = true ∨ ∃ o, ops[i]? = some o ∧ DGood P call opa tm ancs dF i o
  | [], d, hi, h => by simp [runD] at h; subst h; exact ⟨DExt.refl d, hi, fun i h => .inl h⟩
  | j :: l, d, hi, h => by
    simp only [runD] at h
    split at h
    · rename_i d1 h1
      obtain ⟨a1, a2, a3, a4⟩ := stepD_ok hops hi h1
      obtain ⟨b1, b2, b3⟩ := runD_ok hops l a2 h
      refine ⟨a1.trans b1, b2, fun i hdi => ?_⟩
      rcases b3 i hdi with h2 | h2
      · rcases a3 i h2 with h3 | rfl
        · exact .inl h3
        · exact .inr (a4 dF b1)
      · exact .inr h2
    · cases h
end
end Go.Proofs.YtlpepmhpnmnpkaaDoor.Ev
