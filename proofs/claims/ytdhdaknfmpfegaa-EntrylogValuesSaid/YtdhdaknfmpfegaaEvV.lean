/-
  A checked evaluator, part S: a region whose order is open, evaluated and checked.
-/
import Derived.Test.YtdhdaknfmpfegaaEvR
section
set_option linter.unusedVariables false
set_option linter.unusedSimpArgs false
set_option linter.unusedSectionVars false
namespace Go.Proofs.Ytdhdaknfmpfegaa.Ev
open Go Go.RowKit
variable [Tab]

/-! ### what waits for what -/
def dmL : List Edge → Nat
  | [] => 0
  | e :: l => match Region.binds .any e with
    | true => Nat.lor (2 ^ e.on) (dmL l)
    | false => dmL l
def dmask (o : Oper) : Nat := dmL o.after.toList
theorem dmL_spec : ∀ {l : List Edge} {k : Nat}, (dmL l).testBit k = true → ∃ e ∈ l, Region.binds .any e = true ∧ e.on = k
  | [], k, h => by simp [dmL] at h
  | e :: l, k, h => by
    simp only [dmL] at h
    split at h
    · rename_i hb
      have h' : (2 ^ e.on ||| dmL l).testBit k = true := h
      rw [Nat.testBit_or, Bool.or_eq_true, Nat.testBit_two_pow] at h'
      rcases h' with h1 | h1
      · exact ⟨e, by simp, hb, by simpa using h1⟩
      · obtain ⟨e', h2, h3⟩ := dmL_spec h1; exact ⟨e', by simp [h2], h3⟩
    · obtain ⟨e', h2, h3⟩ := dmL_spec h; exact ⟨e', by simp [h2], h3⟩
theorem dmL_mem : ∀ {l : List Edge} {e : Edge}, e ∈ l → Region.binds .any e = true → (dmL l).testBit e.on = true
  | x :: l, e, h, hb => by
    simp only [dmL]
    rcases List.mem_cons.1 h with rfl | h
    · rw [hb]
      show (2 ^ e.on ||| dmL l).testBit e.on = true
      rw [Nat.testBit_or, Nat.testBit_two_pow]; simp
    · split
      · show (2 ^ x.on ||| dmL l).testBit e.on = true
        rw [Nat.testBit_or, dmL_mem h hb]; simp
      · exact dmL_mem h hb
def orSel : Nat → List Nat → Nat
  | _, [] => 0
  | m, x :: l => match Nat.beq (m % 2) 0 with
    | true => orSel (m / 2) l
    | false => Nat.lor x (orSel (m / 2) l)
theorem orSel_spec : ∀ {l : List Nat} {m k : Nat}, (orSel m l).testBit k = true → ∃ i, m.testBit i = true ∧ (l.getD i 0).testBit k = true
  | [], m, k, h => by simp [orSel] at h
  | x :: l, m, k, h => by
    simp only [orSel] at h
    split at h
    · obtain ⟨i, h1, h2⟩ := orSel_spec h
      exact ⟨i + 1, by rw [Nat.testBit_succ]; exact h1, by simpa using h2⟩
    · rename_i hm
      have h' : (x ||| orSel (m / 2) l).testBit k = true := h
      rw [Nat.testBit_or, Bool.or_eq_true] at h'
      rcases h' with h1 | h1
      · have hm' : m % 2 ≠ 0 := fun e => by rw [e] at hm; simp at hm
        exact ⟨0, by rw [Nat.testBit_zero]; simp; omega, by simpa using h1⟩
      · obtain ⟨i, h2, h3⟩ := orSel_spec h1
        exact ⟨i + 1, by rw [Nat.testBit_succ]; exact h2, by simpa using h3⟩
def sub (a b : Nat) : Bool := Nat.beq (Nat.land a b) a
theorem sub_spec {a b k : Nat} (h : sub a b = true) (hk : a.testBit k = true) : b.testBit k = true := by
  have h1 : a &&& b = a := Nat.eq_of_beq_eq_true h
  rw [← h1, Nat.testBit_and, Bool.and_eq_true] at hk
  exact hk.2
def isNF : Op → Bool
  | .store .. | .mapUpdate .. | .insert .. | .mapEntry .. | .entryStore .. | .next .. | .range .. => true
  | .call c => match c.callee with
    | .builtin b => match b with
      | .len | .cap | .min | .max => false
      | _ => true
    | _ => true
  | _ => false
def isNFP (P : Program) (op : Op) : Bool :=
  match op with
  | .convert _ d _ => match P.underlying d with
    | some (.slice _) => true
    | _ => false
  | op => isNF op
def isRead : Op → Bool
  | .load .. | .lookup .. | .convert .. | .entry .. => true
  | .call c => match c.callee with
    | .builtin .len => true
    | _ => false
  | _ => false
theorem heapless {P : Program} {o : Oper} (h1 : isNFP P o.op = false) (h2 : isRead o.op = false) (ρ : Operand → Option Value) (H H' : Tr Blk) (nx nx' : Nat) : evOp P o ρ H nx = evOp P o ρ H' nx' := by
  unfold evOp compO
  cases ho : o.op <;> simp only [ho, isNFP, isNF, isRead, Bool.true_eq_false] at h1 h2 ⊢
  rename_i c
  unfold evCall
  cases hc : c.callee <;> simp only [hc, Bool.true_eq_false] at h1 h2 ⊢
  rename_i b
  unfold evC_builtin
  cases b <;> simp only [Bool.true_eq_false] at h1 h2 ⊢ <;> rfl
def firstE (P : Program) (nf : Bool) (done : Nat) : List Oper → List Nat → Nat → Option Nat
  | o :: l, d :: ds, i => match done.testBit i with
    | true => firstE P nf done l ds (i + 1)
    | false => match sub d done, isNFP P o.op, nf with
      | true, true, true => some i
      | true, false, false => some i
      | _, _, _ => firstE P nf done l ds (i + 1)
  | _, _, _ => none
def planE (P : Program) (ops : List Oper) (ds : List Nat) : Nat → Nat → List Nat
  | 0, _ => []
  | f + 1, done => match firstE P false done ops ds 0 with
    | some j => j :: planE P ops ds f (Nat.lor done (2 ^ j))
    | none => match firstE P true done ops ds 0 with
      | some j => j :: planE P ops ds f (Nat.lor done (2 ^ j))
      | none => []
def ancT (ds : List Nat) (n : Nat) : List Nat → Tr Nat → Tr Nat
  | [], A => A
  | j :: l, A => ancT ds n l (A.set (key j) (Nat.lor (ds.getD j 0) (orSel (ds.getD j 0) ((List.range n).map fun k => (A.get (key k)).getD 0))))
def topoE (ds : List Nat) (n : Nat) : List Nat → Nat → Option Nat
  | [], d => some d
  | j :: l, d => match Nat.blt j n, sub (ds.getD j 0) d with
    | true, true => topoE ds n l (Nat.lor d (2 ^ j))
    | _, _ => none
def distE : List Oper → Bool
  | [] => true
  | o :: l => (match o.dst with
    | none => true
    | some d => l.all fun o' => match o'.dst with | some d' => !(Nat.beq d d') | none => true) && distE l
/-- an order to evaluate in, and all that each operation waits for -/
def statE (P : Program) (ops : List Oper) : Option (List Nat × List Nat) :=
  let ds := ops.map dmask
  let n := ops.length
  let pi := planE P ops ds n 0
  let A := ancT ds n pi .leaf
  let ancs := (List.range n).map fun k => (A.get (key k)).getD 0
  match distE ops, (List.range n).all fun j => Nat.beq (ancs.getD j 0) (Nat.lor (ds.getD j 0) (orSel (ds.getD j 0) ancs)), topoE ds n pi 0 with
  | true, true, some d => match (List.range n).all fun j => d.testBit j with
    | true => some (pi, ancs)
    | false => none
  | _, _, _ => none
theorem distE_spec (l : List Oper) : distE l = true → ∀ (i j : Nat) (oi oj : Oper) (d : Tmp), i < j → l[i]? = some oi → l[j]? = some oj → oi.dst = some d → oj.dst ≠ some d := by
  induction l with
  | nil => intro _ i j oi oj d _ hi; simp at hi
  | cons o l ih =>
    intro h i j oi oj d hij hi hj hd
    simp only [distE, Bool.and_eq_true] at h
    cases j with
    | zero => omega
    | succ j =>
      rw [List.getElem?_cons_succ] at hj
      cases i with
      | zero =>
        rw [List.getElem?_cons_zero, Option.some.injEq] at hi
        have h1 := h.1
        rw [hi, hd] at h1
        have h2 := List.all_eq_true.1 h1 oj (List.mem_of_getElem? hj)
        intro e
        rw [e] at h2
        simp at h2
      | succ i =>
        rw [List.getElem?_cons_succ] at hi
        exact ih h.2 i j oi oj d (by omega) hi hj hd
theorem lor_bit {d j k : Nat} (h : (Nat.lor d (2 ^ j)).testBit k = true) : d.testBit k = true ∨ j = k := by
  have h' : (d ||| 2 ^ j).testBit k = true := h
  rw [Nat.testBit_or, Nat.testBit_two_pow, Bool.or_eq_true] at h'
  exact h'.imp id (fun e => by simpa using e)
theorem topoE_spec {ops : List Oper} {n : Nat} (hn : n = ops.length) (D : Nat → Bool) (l : List Nat) : ∀ {d d' : Nat}, topoE (ops.map dmask) n l d = some d' → (∀ k, d.testBit k = true → D k = true) →
    (∀ k, d'.testBit k = true → D k = true) ∨ ∃ (j : Nat) (o : Oper), ops[j]? = some o ∧ D j = false ∧ ∀ e ∈ o.after, Region.binds .any e = true → D e.on = true := by
  induction l with
  | nil => intro d d' h hD; simp only [topoE, Option.some.injEq] at h; rw [← h]; exact .inl hD
  | cons j l ih =>
    intro d d' h hD
    simp only [topoE] at h
    split at h
    · rename_i h1 h2
      have h1 := blt_lt h1
      have ho : ops[j]? = some (ops[j]'(by omega)) := List.getElem?_eq_getElem (by omega)
      generalize ops[j]'(by omega) = o at ho
      cases hj : D j with
      | true =>
        refine ih h fun k hk => ?_
        rcases lor_bit hk with h3 | h3
        · exact hD k h3
        · rw [← h3]; exact hj
      | false =>
        refine .inr ⟨j, o, ho, hj, fun e he hb => hD _ (sub_spec h2 ?_)⟩
        have : (ops.map dmask).getD j 0 = dmask o := by simp [List.getD, ho]
        rw [this]
        exact dmL_mem (by simpa using he) hb
    · cases h
/-- what statE says -/
theorem statE_spec {P : Program} {ops : List Oper} {pi ancs : List Nat} (h : statE P ops = some (pi, ancs)) :
    distE ops = true ∧ ancs.length = ops.length ∧ (∀ j k, (ancs.getD j 0).testBit k = true → ∃ o, ops[j]? = some o ∧ ∃ e ∈ o.after, Region.binds .any e = true ∧ (e.on = k ∨ (ancs.getD e.on 0).testBit k = true)) ∧
    (∀ D : Nat → Bool, (∃ j, j < ops.length ∧ D j = false) → ∃ (j : Nat) (o : Oper), ops[j]? = some o ∧ D j = false ∧ ∀ e ∈ o.after, Region.binds .any e = true → D e.on = true) := by
  unfold statE at h
  simp only at h
  split at h
  · rename_i d h1 h2 h3
    split at h
    · rename_i h4
      simp only [Option.some.injEq, Prod.mk.injEq] at h
      obtain ⟨rfl, rfl⟩ := h
      refine ⟨h1, by simp, ?_, ?_⟩
      · intro j k hk
        have hj : j < ops.length := by
          rcases Nat.lt_or_ge j ops.length with h | h
          · exact h
          · rw [List.getD_eq_getElem?_getD, List.getElem?_eq_none (by simpa using h)] at hk; simp at hk
        have h5 := Nat.eq_of_beq_eq_true (List.all_eq_true.1 h2 j (List.mem_range.2 hj))
        rw [h5] at hk
        obtain ⟨o, ho⟩ : ∃ o, ops[j]? = some o := ⟨ops[j], by simp [hj]⟩
        have hdm : (ops.map dmask).getD j 0 = dmask o := by simp [List.getD, ho]
        rw [hdm] at hk
        have hk' : (dmask o ||| orSel (dmask o) ((List.range ops.length).map fun k => ((ancT (ops.map dmask) ops.length (planE P ops (ops.map dmask) ops.length 0) Tr.leaf).get (key k)).getD 0)).testBit k = true := hk
        rw [Nat.testBit_or, Bool.or_eq_true] at hk'
        refine ⟨o, ho, ?_⟩
        rcases hk' with h6 | h6
        · obtain ⟨e, he, hb, hk⟩ := dmL_spec h6
          exact ⟨e, by simpa using he, hb, .inl hk⟩
        · obtain ⟨i, h7, h8⟩ := orSel_spec h6
          obtain ⟨e, he, hb, rfl⟩ := dmL_spec h7
          exact ⟨e, by simpa using he, hb, .inr h8⟩
      · rintro D ⟨j, hj, hD⟩
        rcases topoE_spec rfl D _ h3 (fun k hk => by simp at hk) with h5 | h5
        · have := h5 j (List.all_eq_true.1 h4 j (List.mem_range.2 hj))
          rw [hD] at this; cases this
        · exact h5
    · cases h
  · cases h
end Go.Proofs.Ytdhdaknfmpfegaa.Ev
end
section
set_option linter.unusedVariables false
set_option linter.unusedSimpArgs false
set_option linter.unusedSectionVars false
namespace Go.Proofs.Ytdhdaknfmpfegaa.Ev
open Go Go.RowKit
variable [Tab]

def owner (ops : List Oper) (t : Tmp) : Option Nat := (List.range ops.length).find? fun i => (ops[i]?).any (·.dst == some t)
def valOf (V : Tr (Nat × Value)) (j : Nat) : Value := match evO V (.tmp j) with | some v => v | none => undef
def setV (V : Tr (Nat × Value)) (j : Nat) (v : Value) : Tr (Nat × Value) := V.set (key j) (j, v)
def roE (ops : List Oper) (tm : Tr (Nat × Value)) (ancs : List Nat) (V : Tr (Nat × Value)) (j : Nat) : Operand → Option Value
  | .tmp t => match owner ops t with
    | none => evO tm (.tmp t)
    | some i => match (ancs.getD j 0).testBit i with
      | true => evO V (.tmp i)
      | false => match (ancs.getD i 0).testBit j || i == j with
        | true => evO tm (.tmp t)
        | false => none
  | x => evO tm x
structure DS where
  V : Tr (Nat × Value)
  cs : List Nat
  hs : List (Tr Blk)
  As : List (Nat × Key × Blk)
  H : Tr Blk
  mg : Nat
  done : Nat
  nx : Nat
def isA : Op → Bool
  | .alloc .. | .box .. | .buildSlice .. | .makeSlice .. | .makeMap .. => true
  | _ => false
def mergeE (L : List (Nat × Key × Blk)) (H : Tr Blk) : Tr Blk := L.foldr (fun x H => H.set x.2.1 x.2.2) H
def stepD (P : Program) (call : CallE) (ops : List Oper) (tm : Tr (Nat × Value)) (ancs : List Nat) (nx0 j : Nat) (d : DS) : Option DS :=
  match ops[j]? with
  | none => none
  | some o => match d.done.testBit j, sub (ancs.getD j 0) d.done, d.V.get (key j) with
    | false, true, none => match wantR ops (roE ops tm ancs d.V j) o with
      | some false => some { d with V := setV d.V j undef, done := Nat.lor d.done (2 ^ j) }
      | some true => match isNFP P o.op with
        | false => match evOp P o (roE ops tm ancs d.V j) (match isRead o.op with | true => mergeE (d.As.filter fun x => (ancs.getD j 0).testBit x.1 && !d.mg.testBit x.1) d.H | false => d.H) d.nx with
          | some (.pure v) => some { d with V := setV d.V j v, done := Nat.lor d.done (2 ^ j) }
          | some (.new b mk) => match isA o.op, isRead o.op, b.live with
            | true, false, true => some { d with V := setV d.V j (mk (nx0 + j)), As := (j, key (nx0 + j), b) :: d.As, done := Nat.lor d.done (2 ^ j) }
            | _, _, _ => none
          | _ => none
        | true => match d.cs.all fun c => (ancs.getD j 0).testBit c with
          | true => match evOp P o (roE ops tm ancs d.V j) (mergeE (d.As.filter fun x => (ancs.getD j 0).testBit x.1 && !d.mg.testBit x.1) d.H) d.nx with
            | some (.upd v H nx) => some ⟨setV d.V j v, j :: d.cs, H :: d.hs, d.As, H, Nat.lor d.mg (ancs.getD j 0), Nat.lor d.done (2 ^ j), nx⟩
            | some (.call f args) => match call f args (mergeE (d.As.filter fun x => (ancs.getD j 0).testBit x.1 && !d.mg.testBit x.1) d.H) d.nx with
              | some (v, H, nx) => some ⟨setV d.V j v, j :: d.cs, H :: d.hs, d.As, H, Nat.lor d.mg (ancs.getD j 0), Nat.lor d.done (2 ^ j), nx⟩
              | none => none
            | _ => none
          | false => none
      | none => none
    | _, _, _ => none
def runD (P : Program) (call : CallE) (ops : List Oper) (tm : Tr (Nat × Value)) (ancs : List Nat) (nx0 : Nat) : List Nat → DS → Option DS
  | [], d => some d
  | j :: l, d => match stepD P call ops tm ancs nx0 j d with
    | some d => runD P call ops tm ancs nx0 l d
    | none => none
def mkRD (ancs : List Nat) (d : DS) : RD := ⟨valOf d.V, d.As, d.cs.length, fun r => d.cs.reverse.getD r 0, fun q => d.hs.reverse.getD q .leaf, fun j k => (ancs.getD j 0).testBit k⟩

section
variable {P : Program} {call : CallE} {ops : List Oper} {opa : Array Oper} {tm : Tr (Nat × Value)} {ancs : List Nat} {nx0 : Nat} {d d' dF : DS}
structure DInv (ops : List Oper) (ancs : List Nat) (nx0 : Nat) (d : DS) : Prop where
  len : d.hs.length = d.cs.length + 1
  head : d.hs.head? = some d.H
  mg : ∀ i, d.mg.testBit i = true ↔ ∃ c ∈ d.cs, (ancs.getD c 0).testBit i = true
  asi : ∀ x ∈ d.As, d.done.testBit x.1 = true ∧ (∃ o, ops[x.1]? = some o ∧ isA o.op = true) ∧ x.2.1 = key (nx0 + x.1) ∧ x.2.2.live = true
  cs : ∀ c ∈ d.cs, d.done.testBit c = true ∧ c < ops.length
  ord : d.cs.Pairwise fun s r => (ancs.getD s 0).testBit r = true
  ids : d.As.Pairwise fun x y => x.1 ≠ y.1
  vs : ∀ i v, evO d.V (.tmp i) = some v → d.done.testBit i = true
structure DExt (d d' : DS) : Prop where
  ase : ∃ A, d'.As = A ++ d.As ∧ ∀ x ∈ A, d.done.testBit x.1 = false
  cs : ∃ C S, d'.cs = C ++ d.cs ∧ d'.hs = S ++ d.hs ∧ S.length = C.length ∧ ∀ c ∈ C, d.done.testBit c = false
  vs : ∀ i v, evO d.V (.tmp i) = some v → evO d'.V (.tmp i) = some v
  done : ∀ i, d.done.testBit i = true → d'.done.testBit i = true
theorem DExt.refl (d : DS) : DExt d d := ⟨⟨[], rfl, by simp⟩, ⟨[], [], rfl, rfl, rfl, by simp⟩, fun _ _ h => h, fun _ h => h⟩
theorem DExt.trans (h : DExt d d') (k : DExt d' dF) : DExt d dF := by
  obtain ⟨A, hA, hA'⟩ := h.ase
  obtain ⟨B, hB, hB'⟩ := k.ase
  obtain ⟨C, S, hC, hS, hl, hC'⟩ := h.cs
  obtain ⟨C2, S2, hC2, hS2, hl2, hC2'⟩ := k.cs
  have hno : ∀ i, d'.done.testBit i = false → d.done.testBit i = false := fun i hi => by
    cases hd : d.done.testBit i with
    | false => rfl
    | true => rw [h.done i hd] at hi; cases hi
  refine ⟨⟨B ++ A, by rw [hB, hA, List.append_assoc], fun x hx => ?_⟩, ⟨C2 ++ C, S2 ++ S, by rw [hC2, hC, List.append_assoc], by rw [hS2, hS, List.append_assoc], by simp [hl, hl2], fun c hc => ?_⟩, fun i v e => k.vs i v (h.vs i v e), fun i e => k.done i (h.done i e)⟩
  · rcases List.mem_append.1 hx with hx | hx
    · exact hno _ (hB' x hx)
    · exact hA' x hx
  · rcases List.mem_append.1 hc with hc | hc
    · exact hno _ (hC2' c hc)
    · exact hC' c hc
theorem lor_self {d j : Nat} : (Nat.lor d (2 ^ j)).testBit j = true := by
  show (d ||| 2 ^ j).testBit j = true
  rw [Nat.testBit_or, Nat.testBit_two_pow]; simp
theorem lor_left {d e i : Nat} (h : d.testBit i = true) : (Nat.lor d e).testBit i = true := by
  show (d ||| e).testBit i = true
  rw [Nat.testBit_or, h]; rfl
theorem lor_iff {d e i : Nat} : (Nat.lor d e).testBit i = true ↔ d.testBit i = true ∨ e.testBit i = true := by
  show (d ||| e).testBit i = true ↔ _
  rw [Nat.testBit_or, Bool.or_eq_true]
theorem evO_get {V : Tr (Nat × Value)} {i : Nat} {w : Value} (h : evO V (.tmp i) = some w) : V.get (key i) = some (i, w) := by
  simp only [evO, opK] at h
  split at h
  · rename_i t x ht
    split at h
    · rename_i hb
      cases h
      rw [ht, Nat.eq_of_beq_eq_true hb]
    · cases h
  · cases h
theorem evO_of {V : Tr (Nat × Value)} {i : Nat} {w : Value} (h : V.get (key i) = some (i, w)) : evO V (.tmp i) = some w := by
  simp [evO, opK, h]
theorem evO_setV {V : Tr (Nat × Value)} {i j : Nat} {v w : Value} (h : evO V (.tmp i) = some w) (hj : V.get (key j) = none) : evO (setV V j v) (.tmp i) = some w := by
  have hg := evO_get h
  have hne : key i ≠ key j := fun e => by rw [e, hj] at hg; cases hg
  exact evO_of (by rw [setV, Tr.get_set_other _ _ hne]; exact hg)
theorem evO_setV_same {V : Tr (Nat × Value)} {j : Nat} {v : Value} : evO (setV V j v) (.tmp j) = some v := evO_of (Tr.get_set_same _ _ _)
theorem evO_setV_inv {V : Tr (Nat × Value)} {i j : Nat} {v w : Value} (h : evO (setV V j v) (.tmp i) = some w) : i = j ∨ evO V (.tmp i) = some w := by
  have hg := evO_get h
  rw [setV, Tr.get_set] at hg
  split at hg
  · cases hg; exact .inl rfl
  · exact .inr (evO_of hg)
theorem roE_sub (hops : opa.toList = ops) (hx : DExt d dF) (j : Nat) : (mkRD ancs dF).Sub opa tm j (roE ops tm ancs d.V j) := by
  intro x y e
  cases x with
  | tmp t =>
    have howner : ((List.range opa.size).find? fun i => (opa[i]?).any (·.dst == some t)) = owner ops t := by
      unfold owner
      rw [← hops]
      simp
    simp only [roE] at e
    simp only [RD.ro]
    rw [howner]
    split at e
    · rename_i h1; rw [h1]; exact e
    · rename_i i h1
      rw [h1]
      simp only [mkRD]
      split at e
      · rename_i h2
        rw [h2]
        simp [valOf, hx.vs i y e]
      · rename_i h2
        rw [h2]
        split at e
        · rename_i h3; rw [h3]; exact e
        · cases e
  | const v => exact e
  | func f => exact e
  | global g => exact e
theorem mergeE_get (L : List (Nat × Key × Blk)) (H : Tr Blk) : (mergeE L H).get = addL (L.map (·.2)) H.get := by
  induction L with
  | nil => rfl
  | cons x L ih =>
    show ((mergeE L H).set x.2.1 x.2.2).get = upd (addL (L.map (·.2)) H.get) x.2.1 x.2.2
    rw [Tr.get_upd, ih]
/-- what is known at the end of what comes up now -/
inductive DGood (P : Program) (call : CallE) (opa : Array Oper) (tm : Tr (Nat × Value)) (ancs : List Nat) (dF : DS) (j : Nat) (o : Oper) : Prop where
  | good (h : (mkRD ancs dF).Good P call opa tm j o)
  | read (h0 : isNFP P o.op = false) (h1 : isRead o.op = true) (h2 : ∀ c ∈ dF.cs, c ≠ j) (h3 : ∀ x ∈ dF.As, x.1 ≠ j)
theorem mkRD_c (hx : DExt d dF) {r : Nat} (hr : r < d.cs.length) : (mkRD ancs dF).c r = d.cs.reverse.getD r 0 := by
  obtain ⟨C, S, hC, hS, hl, hC'⟩ := hx.cs
  simp only [mkRD, hC, List.reverse_append]
  rw [List.getD_eq_getElem?_getD, List.getElem?_append_left (by simpa using hr), ← List.getD_eq_getElem?_getD]
theorem mkRD_m (hx : DExt d dF) : d.cs.length ≤ (mkRD ancs dF).m := by
  obtain ⟨C, S, hC, hS, hl, hC'⟩ := hx.cs
  simp [mkRD, hC]
theorem mkRD_Hs (hx : DExt d dF) {q : Nat} (hq : q < d.hs.length) : (mkRD ancs dF).Hs q = d.hs.reverse.getD q .leaf := by
  obtain ⟨C, S, hC, hS, hl, hC'⟩ := hx.cs
  simp only [mkRD, hS, List.reverse_append]
  rw [List.getD_eq_getElem?_getD, List.getElem?_append_left (by simpa using hq), ← List.getD_eq_getElem?_getD]
theorem mkRD_cs {r : Nat} (hr : r < (mkRD ancs dF).m) : (mkRD ancs dF).c r ∈ dF.cs := by
  simp only [mkRD] at hr ⊢
  rw [List.getD_eq_getElem?_getD, List.getElem?_eq_getElem (by simpa using hr)]
  simp only [Option.getD_some]
  exact List.mem_reverse.1 (List.getElem_mem _)

theorem not_mem_cs (hi : DInv ops ancs nx0 d) (hx : DExt d' dF) (hd' : d'.cs = d.cs) {j : Nat} (h1 : d.done.testBit j = false) (h2 : d'.done.testBit j = true) : ∀ c ∈ dF.cs, c ≠ j := by
  intro c hc e
  subst e
  obtain ⟨C, S, hC, -, -, hC'⟩ := hx.cs
  rw [hC, hd'] at hc
  rcases List.mem_append.1 hc with hc | hc
  · rw [hC' _ hc] at h2; cases h2
  · rw [(hi.cs _ hc).1] at h1; cases h1
theorem not_mem_as (hi : DInv ops ancs nx0 d) (hx : DExt d' dF) (hd' : d'.As = d.As) {j : Nat} (h1 : d.done.testBit j = false) (h2 : d'.done.testBit j = true) : ∀ x ∈ dF.As, x.1 ≠ j := by
  intro x hxm e
  subst e
  obtain ⟨A, hA, hA'⟩ := hx.ase
  rw [hA, hd'] at hxm
  rcases List.mem_append.1 hxm with hc | hc
  · rw [hA' _ hc] at h2; cases h2
  · rw [(hi.asi _ hc).1] at h1; cases h1
/-- the bookkeeping of a step that is free to come up anywhere -/
theorem flex_inv (hi : DInv ops ancs nx0 d) {j : Nat} (hdn : d.done.testBit j = false) (hV : d.V.get (key j) = none) (v : Value) :
    DExt d { d with V := setV d.V j v, done := Nat.lor d.done (2 ^ j) } ∧ DInv ops ancs nx0 { d with V := setV d.V j v, done := Nat.lor d.done (2 ^ j) } :=
  ⟨⟨⟨[], rfl, by simp⟩, ⟨[], [], rfl, rfl, rfl, by simp⟩, fun i w h => evO_setV h hV, fun i h => lor_left h⟩,
   ⟨hi.len, hi.head, hi.mg, fun x hx => let ⟨h1, h2⟩ := hi.asi x hx; ⟨lor_left h1, h2⟩, fun c hc => let ⟨h1, h2⟩ := hi.cs c hc; ⟨lor_left h1, h2⟩, hi.ord, hi.ids, fun i w h => by
      rcases evO_setV_inv h with rfl | h
      · exact lor_self
      · exact lor_left (hi.vs i w h)⟩⟩
theorem mrg_eq (hi : DInv ops ancs nx0 d) (hx : DExt d dF) (i : Nat) : (mkRD ancs dF).mrg d.cs.length i = d.mg.testBit i := by
  rw [Bool.eq_iff_iff, hi.mg]
  unfold RD.mrg
  rw [List.any_eq_true]
  constructor
  · rintro ⟨s, hs, ha⟩
    rw [List.mem_range] at hs
    rw [mkRD_c hx hs] at ha
    refine ⟨_, ?_, ha⟩
    rw [List.getD_eq_getElem?_getD, List.getElem?_eq_getElem (by simpa using hs)]
    simp only [Option.getD_some]
    exact List.mem_reverse.1 (List.getElem_mem _)
  · rintro ⟨c, hc, ha⟩
    obtain ⟨s, hs, rfl⟩ := List.mem_iff_getElem.1 (List.mem_reverse.2 hc)
    have hs' : s < d.cs.length := by simpa using hs
    refine ⟨s, List.mem_range.2 hs', ?_⟩
    rw [mkRD_c hx hs', List.getD_eq_getElem?_getD, List.getElem?_eq_getElem hs]
    exact ha
theorem nf_inv (hi : DInv ops ancs nx0 d) {j : Nat} (hj : j < ops.length) (hdn : d.done.testBit j = false) (hV : d.V.get (key j) = none) (hall : (d.cs.all fun c => (ancs.getD j 0).testBit c) = true) (v : Value) (H : Tr Blk) (nx : Nat) :
    DExt d ⟨setV d.V j v, j :: d.cs, H :: d.hs, d.As, H, Nat.lor d.mg (ancs.getD j 0), Nat.lor d.done (2 ^ j), nx⟩ ∧ DInv ops ancs nx0 ⟨setV d.V j v, j :: d.cs, H :: d.hs, d.As, H, Nat.lor d.mg (ancs.getD j 0), Nat.lor d.done (2 ^ j), nx⟩ := by
  refine ⟨⟨⟨[], rfl, by simp⟩, ⟨[j], [H], rfl, rfl, rfl, by simpa using hdn⟩, fun i w h => evO_setV h hV, fun i h => lor_left h⟩, ⟨by simp [hi.len], rfl, fun i => ?_, fun x hx => let ⟨h1, h2⟩ := hi.asi x hx; ⟨lor_left h1, h2⟩, fun c hc => ?_, ?_, hi.ids, fun i w h => ?_⟩⟩
  · rw [lor_iff, hi.mg]
    constructor
    · rintro (⟨c, hc, h⟩ | h)
      · exact ⟨c, by simp [hc], h⟩
      · exact ⟨j, by simp, h⟩
    · rintro ⟨c, hc, h⟩
      rcases List.mem_cons.1 hc with rfl | hc
      · exact .inr h
      · exact .inl ⟨c, hc, h⟩
  · rcases List.mem_cons.1 hc with rfl | hc
    · exact ⟨lor_self, hj⟩
    · obtain ⟨h1, h2⟩ := hi.cs c hc
      exact ⟨lor_left h1, h2⟩
  · exact List.pairwise_cons.2 ⟨fun c hc => List.all_eq_true.1 hall c hc, hi.ord⟩
  · rcases evO_setV_inv h with rfl | h
    · exact lor_self
    · exact lor_left (hi.vs i w h)
theorem nf_good (hi : DInv ops ancs nx0 d) {j : Nat} (hdn : d.done.testBit j = false) (hsub : sub (ancs.getD j 0) d.done = true) {v : Value} {H : Tr Blk} {nx : Nat}
    (hd' : d' = ⟨setV d.V j v, j :: d.cs, H :: d.hs, d.As, H, Nat.lor d.mg (ancs.getD j 0), Nat.lor d.done (2 ^ j), nx⟩) (he : DExt d d') (hx : DExt d' dF) :
    (∀ x ∈ dF.As, x.1 ≠ j) ∧ d.cs.length < (mkRD ancs dF).m ∧ (mkRD ancs dF).c d.cs.length = j ∧ (mkRD ancs dF).Hs (d.cs.length + 1) = H ∧ (mkRD ancs dF).val j = v ∧
    (mergeE (d.As.filter fun x => (ancs.getD j 0).testBit x.1 && !d.mg.testBit x.1) d.H).get = addL ((mkRD ancs dF).L1 d.cs.length) ((mkRD ancs dF).Hs d.cs.length).get := by
  have hlen : d'.cs.length = d.cs.length + 1 := by rw [hd']; rfl
  have hdj : d'.done.testBit j = true := by rw [hd']; exact lor_self
  have hc : (mkRD ancs dF).c d.cs.length = j := by
    rw [mkRD_c hx (by omega), hd']
    simp [List.getD_eq_getElem?_getD]
  have hH : (mkRD ancs dF).Hs d.cs.length = d.H := by
    have hl := hi.len
    rw [mkRD_Hs hx (by rw [hd']; simp; omega), hd']
    have hh := hi.head
    match hhs : d.hs, hl, hh with
    | x :: xs, hl, hh =>
      simp at hl hh
      subst hh
      simp only [List.reverse_cons, List.append_assoc]
      rw [List.getD_eq_getElem?_getD, List.getElem?_append_right (by simp; omega)]
      simp [← hl]
  have hH1 : (mkRD ancs dF).Hs (d.cs.length + 1) = H := by
    have hl := hi.len
    rw [mkRD_Hs hx (by rw [hd']; simp; omega), hd']
    simp only [List.reverse_cons]
    rw [List.getD_eq_getElem?_getD, List.getElem?_append_right (by simp; omega)]
    simp [hl]
  refine ⟨not_mem_as (d' := d') hi hx (by rw [hd']) hdn hdj, Nat.lt_of_lt_of_le (by omega) (mkRD_m hx), hc, hH1, ?_, ?_⟩
  · have : evO d'.V (.tmp j) = some v := by rw [hd']; exact evO_setV_same
    simp only [mkRD, valOf, hx.vs j v this]
  · rw [mergeE_get, hH]
    congr 1
    unfold RD.L1
    rw [hc]
    obtain ⟨A, hA, hA'⟩ := (he.trans hx).ase
    show _ = (List.filter _ dF.As).map _
    rw [hA, List.filter_append]
    have hnil : (A.filter fun x => (mkRD ancs dF).anc j x.1 && !(mkRD ancs dF).mrg d.cs.length x.1) = [] := by
      rw [List.filter_eq_nil_iff]
      intro x hxA hp
      rw [Bool.and_eq_true] at hp
      have := sub_spec hsub hp.1
      rw [hA' x hxA] at this; cases this
    rw [hnil, List.nil_append]
    congr 1
    apply List.filter_congr
    intro x hxm
    rw [mrg_eq hi (he.trans hx)]
    rfl
theorem stepD_ok (hops : opa.toList = ops) (hi : DInv ops ancs nx0 d) {j : Nat} (h : stepD P call ops tm ancs nx0 j d = some d') :
    DExt d d' ∧ DInv ops ancs nx0 d' ∧ (∀ i, d'.done.testBit i = true → d.done.testBit i = true ∨ i = j) ∧ ∀ dF, DExt d' dF → ∃ o, ops[j]? = some o ∧ DGood P call opa tm ancs dF j o := by
  have hdone : ∀ i, (Nat.lor d.done (2 ^ j)).testBit i = true → d.done.testBit i = true ∨ i = j := fun i h => (lor_bit h).imp id Eq.symm
  unfold stepD at h
  split at h
  · cases h
  · rename_i o ho
    have hj : j < ops.length := (List.getElem?_eq_some_iff.1 ho).1
    split at h
    · rename_i hdn hsub hV
      split at h
      · rename_i hw
        cases h
        obtain ⟨e1, e2⟩ := flex_inv hi hdn hV undef
        refine ⟨e1, e2, hdone, fun dF hx => ⟨o, ho, .good (.skip _ (roE_sub hops (e1.trans hx) j) (by rw [hops]; exact hw) ?_ ?_ ?_)⟩⟩
        · have : evO (setV d.V j undef) (.tmp j) = some undef := evO_setV_same
          simp only [mkRD, valOf, hx.vs j _ this]
        · exact fun r hr => not_mem_cs hi hx rfl hdn lor_self _ (mkRD_cs hr)
        · exact not_mem_as hi hx rfl hdn lor_self
      · rename_i hw
        split at h
        · rename_i hnf
          split at h
          · rename_i v hev
            cases h
            obtain ⟨e1, e2⟩ := flex_inv hi hdn hV v
            refine ⟨e1, e2, hdone, fun dF hx => ⟨o, ho, ?_⟩⟩
            cases hr : isRead o.op with
            | true => exact .read hnf hr (not_mem_cs hi hx rfl hdn lor_self) (not_mem_as hi hx rfl hdn lor_self)
            | false =>
              refine .good (.pure _ (roE_sub hops (e1.trans hx) j) (by rw [hops]; exact hw) (fun r hr => not_mem_cs hi hx rfl hdn lor_self _ (mkRD_cs hr)) (not_mem_as hi hx rfl hdn lor_self) fun q _ _ => ⟨d.nx, mergeE (dF.As.filter fun x => (ancs.getD j 0).testBit x.1 && !(mkRD ancs dF).mrg q x.1) ((mkRD ancs dF).Hs q), by rw [mergeE_get]; rfl, ?_⟩)
              simp only [hr] at hev
              have hv : (mkRD ancs dF).val j = v := by
                have : evO (setV d.V j v) (.tmp j) = some v := evO_setV_same
                simp only [mkRD, valOf, hx.vs j _ this]
              rw [hv, heapless hnf hr _ _ d.H _ d.nx]
              exact hev
          · rename_i b mk hev
            split at h
            · rename_i hA hr hbl
              cases h
              simp only [hr] at hev
              obtain ⟨e1, e2⟩ := flex_inv hi hdn hV (mk (nx0 + j))
              have e1' : DExt d { d with V := setV d.V j (mk (nx0 + j)), As := (j, key (nx0 + j), b) :: d.As, done := Nat.lor d.done (2 ^ j) } :=
                ⟨⟨[(j, key (nx0 + j), b)], rfl, by simpa using hdn⟩, e1.cs, e1.vs, e1.done⟩
              refine ⟨e1', ⟨e2.len, e2.head, e2.mg, ?_, e2.cs, e2.ord, ?_, e2.vs⟩, hdone, fun dF hx => ⟨o, ho, .good (.new _ (roE_sub hops (e1'.trans hx) j) (by rw [hops]; exact hw) ?_ b mk (nx0 + j) ?_ ?_ fun q _ _ => ⟨d.nx, ?_⟩)⟩⟩
              · intro x hx
                rcases List.mem_cons.1 hx with rfl | hx
                · exact ⟨lor_self, ⟨o, ho, hA⟩, rfl, hbl⟩
                · exact e2.asi x hx
              · refine List.pairwise_cons.2 ⟨fun x hx e => ?_, hi.ids⟩
                have := (hi.asi x hx).1
                rw [← e, hdn] at this; cases this
              · exact fun r hr => not_mem_cs hi hx rfl hdn lor_self _ (mkRD_cs hr)
              · obtain ⟨A, hA, -⟩ := hx.ase
                show _ ∈ dF.As
                rw [hA]; simp
              · have : evO (setV d.V j (mk (nx0 + j))) (.tmp j) = some (mk (nx0 + j)) := evO_setV_same
                simp only [mkRD, valOf, hx.vs j _ this]
              · rw [heapless hnf hr _ _ d.H _ d.nx]
                exact hev
            · cases h
          · cases h
        · rename_i hnf
          split at h
          · rename_i hall
            split at h
            · rename_i v H nx hev
              cases h
              obtain ⟨e1, e2⟩ := nf_inv hi hj hdn hV hall v H nx
              refine ⟨e1, e2, hdone, fun dF hx => ⟨o, ho, ?_⟩⟩
              obtain ⟨g1, g2, g3, g4, g5, g6⟩ := nf_good hi hdn hsub rfl e1 hx
              exact .good (.upd _ (roE_sub hops (e1.trans hx) j) (by rw [hops]; exact hw) g1 _ g2 g3 _ d.nx nx g6 (by rw [g4, g5]; exact hev))
            · rename_i f args hev
              split at h
              · rename_i v H nx hcl
                cases h
                obtain ⟨e1, e2⟩ := nf_inv hi hj hdn hV hall v H nx
                refine ⟨e1, e2, hdone, fun dF hx => ⟨o, ho, ?_⟩⟩
                obtain ⟨g1, g2, g3, g4, g5, g6⟩ := nf_good hi hdn hsub rfl e1 hx
                exact .good (.call _ (roE_sub hops (e1.trans hx) j) (by rw [hops]; exact hw) g1 _ g2 g3 _ d.nx nx g6 f args hev (by rw [g4, g5]; exact hcl))
              · cases h
            · cases h
          · cases h
      · cases h
    · cases h
theorem runD_ok (hops : opa.toList = ops) : ∀ (l : List Nat) {d : DS}, DInv ops ancs nx0 d → runD P call ops tm ancs nx0 l d = some dF →
    DExt d dF ∧ DInv ops ancs nx0 dF ∧ ∀ i, dF.done.testBit i = true → d.done.testBit i = true ∨ ∃ o, ops[i]? = some o ∧ DGood P call opa tm ancs dF i o
  | [], d, hi, h => by simp [runD] at h; subst h; exact ⟨DExt.refl d, hi, fun i h => .inl h⟩
  | j :: l, d, hi, h => by
    simp only [runD] at h
    split at h
    · rename_i d1 h1
      obtain ⟨a1, a2, a3, a4⟩ := stepD_ok hops hi h1
      obtain ⟨b1, b2, b3⟩ := runD_ok hops l a2 h
      refine ⟨a1.trans b1, b2, fun i hdi => ?_⟩
      rcases b3 i hdi with h2 | h2
      · rcases a3 i h2 with h3 | rfl
        · exact .inl h3
        · exact .inr (a4 dF b1)
      · exact .inr h2
    · cases h
end
end Go.Proofs.Ytdhdaknfmpfegaa.Ev
end
section
set_option linter.unusedVariables false
set_option linter.unusedSimpArgs false
set_option linter.unusedSectionVars false
namespace Go.Proofs.Ytdhdaknfmpfegaa.Ev
open Go Go.RowKit
variable [Tab]

def aIdx (ops : List Oper) : List Nat := (List.range ops.length).filter fun j => (ops[j]?).any (isA ·.op)
def reserveE (nx0 : Nat) : List Nat → Tr Blk → Option (Tr Blk)
  | [], H => some H
  | j :: l, H => match H.get (key (nx0 + j)) with
    | none => reserveE nx0 l (H.set (key (nx0 + j)) .dead)
    | some _ => none
theorem reserveE_spec {nx0 : Nat} : ∀ {l : List Nat} {H H' : Tr Blk}, reserveE nx0 l H = some H' →
    (∀ j ∈ l, H.get (key (nx0 + j)) = none) ∧ (l.map fun j => key (nx0 + j)).Nodup ∧ ∀ k, H'.get k = if k ∈ l.map (fun j => key (nx0 + j)) then some .dead else H.get k
  | [], H, H', h => by simp [reserveE] at h; subst h; simp
  | j :: l, H, H', h => by
    simp only [reserveE] at h
    split at h
    · rename_i hn
      obtain ⟨h1, h2, h3⟩ := reserveE_spec h
      have hne : ∀ i ∈ l, key (nx0 + i) ≠ key (nx0 + j) := fun i hi e => by
        have := h1 i hi
        rw [e, Tr.get_set_same] at this; cases this
      refine ⟨fun i hi => ?_, ?_, fun k => ?_⟩
      · rcases List.mem_cons.1 hi with rfl | hi
        · exact hn
        · have := h1 i hi
          rwa [Tr.get_set_other _ _ (hne i hi)] at this
      · rw [List.map_cons, List.nodup_cons]
        refine ⟨fun hm => ?_, h2⟩
        obtain ⟨i, hi, e⟩ := List.mem_map.1 hm
        exact hne i hi e
      · rw [h3 k, Tr.get_set]
        by_cases hk : k = key (nx0 + j)
        · subst hk
          simp
        · by_cases hm : k ∈ l.map (fun j => key (nx0 + j))
          · rw [if_pos hm, if_pos (by simp only [List.map_cons, List.mem_cons]; exact .inr hm)]
          · rw [if_neg hm, if_neg hk, if_neg (by simp only [List.map_cons, List.mem_cons]; exact fun h => h.elim hk hm)]
    · cases h
theorem addL_dead (Ds : List Key) (H : HP) (k : Key) : addL (Ds.map fun k => (k, Blk.dead)) H k = if k ∈ Ds then some .dead else H k := by
  induction Ds with
  | nil => simp [addL]
  | cons d Ds ih =>
    rw [List.map_cons, addL_cons]
    by_cases e : k = d
    · subst e; rw [upd_same]; simp
    · rw [upd_other _ _ e, ih]
      simp [e]
def finE (V : Tr (Nat × Value)) : List Oper → Nat → Tr (Nat × Value) → Tr (Nat × Value)
  | [], _, tm => tm
  | o :: l, i, tm => finE V l (i + 1) (match o.dst with | some d => tm.set (key d) (d, valOf V i) | none => tm)
theorem finE_spec {V : Tr (Nat × Value)} (l : List Oper) : ∀ {i : Nat} {tm : Tr (Nat × Value)}, (∀ k t x, tm.get k = some (t, x) → k = key t) → ∀ k t x, (finE V l i tm).get k = some (t, x) →
    k = key t ∧ ((∃ j o, l[j]? = some o ∧ o.dst = some t ∧ x = valOf V (i + j)) ∨ (tm.get k = some (t, x) ∧ ∀ o ∈ l, o.dst ≠ some t)) := by
  induction l with
  | nil => intro i tm htm k t x h; exact ⟨htm k t x h, .inr ⟨h, by simp⟩⟩
  | cons o l ih =>
    intro i tm htm k t x h
    simp only [finE] at h
    have htm' : ∀ k t x, (match o.dst with | some d => tm.set (key d) (d, valOf V i) | none => tm).get k = some (t, x) → k = key t := by
      intro k t x hk
      split at hk
      · rw [Tr.get_set] at hk
        split at hk
        · rename_i e; cases hk; exact e
        · exact htm k t x hk
      · exact htm k t x hk
    obtain ⟨h1, h2⟩ := ih htm' k t x h
    refine ⟨h1, ?_⟩
    rcases h2 with ⟨j, o', hj, hd, hx⟩ | ⟨h2, h3⟩
    · exact .inl ⟨j + 1, o', by simpa using hj, hd, by rw [hx]; congr 1; omega⟩
    · split at h2
      · rename_i d hd
        rw [Tr.get_set] at h2
        split at h2
        · cases h2
          exact .inl ⟨0, o, rfl, hd, rfl⟩
        · rename_i hne
          refine .inr ⟨h2, fun o' ho' e => ?_⟩
          rcases List.mem_cons.1 ho' with rfl | ho'
          · rw [hd] at e; cases e
            exact hne h1
          · exact h3 o' ho' e
      · rename_i hd
        refine .inr ⟨h2, fun o' ho' e => ?_⟩
        rcases List.mem_cons.1 ho' with rfl | ho'
        · rw [hd] at e; cases e
        · exact h3 o' ho' e
def infeas (ancs : List Nat) (csR : List Nat) (j q : Nat) : Bool :=
  ((csR.take q).any fun c => (ancs.getD c 0).testBit j) || ((csR.drop q).any fun c => (ancs.getD j 0).testBit c)
/-- the heap that operation j reads when q of the others have come up -/
def readH (As : List (Nat × Key × Blk)) (ancs cs : List Nat) (j q : Nat) (H : Tr Blk) : Tr Blk :=
  match As with
  | [] => H
  | _ => mergeE (As.filter fun x => (ancs.getD j 0).testBit x.1 && !((List.range q).any fun s => (ancs.getD (cs.getD s 0) 0).testBit x.1)) H
theorem readH_get (As : List (Nat × Key × Blk)) (ancs cs : List Nat) (j q : Nat) (H : Tr Blk) : (readH As ancs cs j q H).get = addL ((As.filter fun x => (ancs.getD j 0).testBit x.1 && !((List.range q).any fun s => (ancs.getD (cs.getD s 0) 0).testBit x.1)).map (·.2)) H.get := by
  unfold readH
  split
  · rfl
  · rw [mergeE_get]
/-- the loads yield the same wherever they may come up -/
def readsE (P : Program) (ops : List Oper) (tm : Tr (Nat × Value)) (ancs : List Nat) (d : DS) : Bool :=
  (List.range ops.length).all fun j => match ops[j]? with
    | none => true
    | some o => match isRead o.op && !isNFP P o.op with
      | false => true
      | true => match wantR ops (roE ops tm ancs d.V j) o with
        | none => false
        | some false => veq (valOf d.V j) undef
        | some true => (List.range (d.cs.length + 1)).all fun q => infeas ancs d.cs.reverse j q || match evOp P o (roE ops tm ancs d.V j) (readH d.As ancs d.cs.reverse j q (d.hs.reverse.getD q .leaf)) 0 with
          | some (.pure v) => veq v (valOf d.V j)
          | _ => false
def drawE (P : Program) (call : CallE) : DrawE := fun nt ops st =>
  match statE P ops with
  | none => none
  | some (pi, ancs) => match ops.all fun o => match o.dst with | some d => Nat.blt d nt | none => true with
    | false => none
    | true => match reserveE st.nx (aIdx ops) st.H with
      | none => none
      | some H => match runD P call ops st.tm ancs st.nx pi ⟨.leaf, [], [H], [], H, 0, 0, st.nx + ops.length⟩ with
        | none => none
        | some d => match (List.range ops.length).all fun j => d.done.testBit j, readsE P ops st.tm ancs d with
          | true, true => forceN d.nx fun n => some ⟨finE d.V ops 0 st.tm, mergeE (d.As.filter fun x => !d.mg.testBit x.1) d.H, n, st.df⟩
          | _, _ => none
section
variable {P : Program} {call : CallE} {σ : Nat → Value} [TabOK P σ]
theorem infeas_of {ancs : List Nat} {d : DS} {j q : Nat} (hf : (mkRD ancs d).feas j q) (hq : q ≤ d.cs.length) : infeas ancs d.cs.reverse j q = false := by
  unfold infeas
  rw [Bool.or_eq_false_iff, List.any_eq_false, List.any_eq_false]
  refine ⟨fun c hc => ?_, fun c hc => ?_⟩
  · obtain ⟨r, hr, rfl⟩ := List.mem_iff_getElem.1 hc
    have hr' : r < q := by simp at hr; omega
    have := hf.1 r hr'
    simp only [mkRD] at this
    have hlt : r < d.cs.reverse.length := by simp; omega
    rw [List.getD_eq_getElem?_getD (l := d.cs.reverse), List.getElem?_eq_getElem hlt] at this
    simp only [List.getElem_take]
    simpa using this
  · obtain ⟨r, hr, rfl⟩ := List.mem_iff_getElem.1 hc
    have hr' : q + r < d.cs.length := by simp at hr; omega
    have := hf.2 (q + r) (by omega) hr'
    simp only [mkRD] at this
    have hlt : q + r < d.cs.reverse.length := by simp; omega
    rw [List.getD_eq_getElem?_getD (l := d.cs.reverse), List.getElem?_eq_getElem hlt] at this
    simp only [List.getElem_drop]
    simpa using this
theorem drawE_ok (hm : P.follows .mixedOrders = true) (hcall : CallOK P σ call) : DrawOK P σ (drawE P call) := by
  intro nt id opa st st' h M a w hst rd Q hQ
  unfold drawE at h
  simp only [forceN_eq] at h
  split at h
  · cases h
  · rename_i pi ancs hstat
    split at h
    · cases h
    · rename_i hlt
      split at h
      · cases h
      · rename_i H hres
        split at h
        · cases h
        · rename_i d hrun
          split at h
          · rename_i hall hreads
            cases h
            obtain ⟨s1, s2, s3, s4⟩ := statE_spec hstat
            obtain ⟨r1, r2, r3⟩ := reserveE_spec hres
            have hlen : opa.toList.length = opa.size := by simp
            have hget : ∀ j : Nat, opa.toList[j]? = opa[j]? := fun j => by simp
            have hi0 : DInv opa.toList ancs st.nx ⟨.leaf, [], [H], [], H, 0, 0, st.nx + opa.toList.length⟩ :=
              ⟨rfl, rfl, by simp, by simp, by simp, .nil, .nil, fun i v e => by simp [evO, opK, Tr.get_leaf] at e⟩
            obtain ⟨e1, e2, e3⟩ := runD_ok (opa := opa) rfl pi hi0 hrun
            have hdone : ∀ j, j < opa.size → d.done.testBit j = true := fun j hj => List.all_eq_true.1 hall j (List.mem_range.2 (by omega))
            have hgood : ∀ j o, opa[j]? = some o → DGood P call opa st.tm ancs d j o := fun j o ho => by
              have hj := (Array.getElem?_eq_some_iff.1 ho).1
              rcases e3 j (hdone j hj) with h1 | ⟨o', ho', h1⟩
              · simp at h1
              · rw [hget, ho] at ho'; cases ho'; exact h1
            have hkeyinj : ∀ x ∈ d.As, ∀ y ∈ d.As, x.2.1 = y.2.1 → x.1 = y.1 := by
              intro x hx y hy e
              obtain ⟨-, ⟨o1, ho1, ha1⟩, hk1, -⟩ := e2.asi x hx
              obtain ⟨-, ⟨o2, ho2, ha2⟩, hk2, -⟩ := e2.asi y hy
              rw [hk1, hk2] at e
              have m1 : x.1 ∈ aIdx opa.toList := List.mem_filter.2 ⟨List.mem_range.2 (List.getElem?_eq_some_iff.1 ho1).1, by simp only [ho1]; simpa using ha1⟩
              have m2 : y.1 ∈ aIdx opa.toList := List.mem_filter.2 ⟨List.mem_range.2 (List.getElem?_eq_some_iff.1 ho2).1, by simp only [ho2]; simpa using ha2⟩
              have key' : ∀ (L : List Nat), (L.map fun j => key (st.nx + j)).Nodup → ∀ a b, a ∈ L → b ∈ L → key (st.nx + a) = key (st.nx + b) → a = b := by
                intro L
                induction L with
                | nil => intro _ a b h; cases h
                | cons z L ih =>
                  intro hn a b h1 h2 e
                  rw [List.map_cons, List.nodup_cons] at hn
                  rcases List.mem_cons.1 h1 with rfl | h1' <;> rcases List.mem_cons.1 h2 with rfl | h2'
                  · rfl
                  · exact absurd (by rw [e]; exact List.mem_map_of_mem (f := fun j => key (st.nx + j)) h2') hn.1
                  · exact absurd (by rw [← e]; exact List.mem_map_of_mem (f := fun j => key (st.nx + j)) h1') hn.1
                  · exact ih hn.2 a b h1' h2' e
              exact key' _ r2 _ _ m1 m2 e
            have hids : ∀ x ∈ d.As, ∀ y ∈ d.As, x.1 = y.1 → x = y := by
              intro x hx y hy e
              have key' : ∀ (L : List (Nat × Key × Blk)), (L.Pairwise fun x y => x.1 ≠ y.1) → x ∈ L → y ∈ L → x = y := by
                intro L
                induction L with
                | nil => intro _ h; cases h
                | cons z L ih =>
                  intro hn h1 h2
                  rw [List.pairwise_cons] at hn
                  rcases List.mem_cons.1 h1 with rfl | h1' <;> rcases List.mem_cons.1 h2 with rfl | h2'
                  · rfl
                  · exact absurd e (hn.1 y h2')
                  · exact absurd e.symm (hn.1 x h1')
                  · exact ih hn.2 h1' h2'
              exact key' _ e2.ids hx hy
            have hDs : ∀ x ∈ d.As, x.2.1 ∈ (aIdx opa.toList).map fun j => key (st.nx + j) := by
              intro x hx
              obtain ⟨-, ⟨o1, ho1, ha1⟩, hk1, -⟩ := e2.asi x hx
              rw [hk1]
              exact List.mem_map.2 ⟨x.1, List.mem_filter.2 ⟨List.mem_range.2 (List.getElem?_eq_some_iff.1 ho1).1, by simp only [ho1]; simpa using ha1⟩, rfl⟩
            have hfree : ∀ k ∈ (aIdx opa.toList).map (fun j => key (st.nx + j)), st.H.get k = none := by
              intro k hk
              obtain ⟨j, hj, rfl⟩ := List.mem_map.1 hk
              exact r1 j hj
            have hH0 : H.get = addL (((aIdx opa.toList).map fun j => key (st.nx + j)).map fun k => (k, .dead)) st.H.get := by
              funext k; rw [r3 k, addL_dead]
            have ok : (mkRD ancs d).OK P call opa st.tm nt st.H.get := by
              refine ⟨?_, ?_, ?_, ?_, ?_, ?_, hids, ?_, ?_, ?_⟩
              · intro j k hk
                obtain ⟨o, ho, h1⟩ := s3 j k hk
                exact ⟨o, by rw [← hget]; exact ho, h1⟩
              · intro r s hrs hs
                have hp := List.pairwise_iff_getElem.1 (List.pairwise_reverse.2 e2.ord)
                have hs' : s < d.cs.reverse.length := by simpa [mkRD] using hs
                have := hp r s (by omega) hs' hrs
                simp only [mkRD]
                rw [List.getD_eq_getElem?_getD (l := d.cs.reverse), List.getD_eq_getElem?_getD (l := d.cs.reverse), List.getElem?_eq_getElem hs', List.getElem?_eq_getElem (show r < d.cs.reverse.length by omega)]
                exact this
              · intro i j oi oj t hoi hoj hdi hdj
                rcases Nat.lt_trichotomy i j with hij | hij | hij
                · exact absurd hdj (distE_spec _ s1 i j oi oj t hij (by rw [hget]; exact hoi) (by rw [hget]; exact hoj) hdi)
                · exact hij
                · exact absurd hdi (distE_spec _ s1 j i oj oi t hij (by rw [hget]; exact hoj) (by rw [hget]; exact hoi) hdj)
              · intro i oi t hoi hdi
                have := List.all_eq_true.1 hlt oi (List.mem_of_getElem? (by rw [hget]; exact hoi))
                rw [hdi] at this
                exact blt_lt this
              · intro j o ho
                rcases hgood j o ho with h1 | ⟨hnf, hrd, hc, hA⟩
                · exact h1
                · have hj := (Array.getElem?_eq_some_iff.1 ho).1
                  have hr := List.all_eq_true.1 hreads j (List.mem_range.2 (by omega))
                  simp only [hget, ho, hrd, hnf, Bool.not_false, Bool.and_self] at hr
                  split at hr
                  · cases hr
                  · rename_i hw
                    exact .skip _ (roE_sub rfl (DExt.refl d) j) hw (veq_eq hr) (fun r hr' => hc _ (mkRD_cs hr')) hA
                  · rename_i hw
                    refine .pure _ (roE_sub rfl (DExt.refl d) j) hw (fun r hr' => hc _ (mkRD_cs hr')) hA fun q hq hf => ⟨0, readH d.As ancs d.cs.reverse j q (d.hs.reverse.getD q .leaf), readH_get .., ?_⟩
                    have h2 := List.all_eq_true.1 hr q (List.mem_range.2 (by have : q ≤ d.cs.length := hq; omega))
                    rw [infeas_of hf hq, Bool.false_or] at h2
                    split at h2
                    · rename_i v hv
                      rw [show (mkRD ancs d).val j = v from (veq_eq h2).symm]
                      exact hv
                    · cases h2
              · show (d.As.map fun x => x.2.1).Nodup
                have hp := e2.ids
                have key' : ∀ (L : List (Nat × Key × Blk)), (∀ x ∈ L, x ∈ d.As) → (L.Pairwise fun x y => x.1 ≠ y.1) → (L.map fun x => x.2.1).Nodup := by
                  intro L
                  induction L with
                  | nil => intro _ _; exact .nil
                  | cons z L ih =>
                    intro hs hn
                    rw [List.pairwise_cons] at hn
                    rw [List.map_cons, List.nodup_cons]
                    refine ⟨fun hm => ?_, ih (fun x hx => hs x (by simp [hx])) hn.2⟩
                    obtain ⟨y, hy, e⟩ := List.mem_map.1 hm
                    exact hn.1 y hy (hkeyinj z (hs z (by simp)) y (hs y (by simp [hy])) e.symm)
                exact key' _ (fun x hx => hx) hp
              · intro x hx
                exact ⟨(e2.asi x hx).2.2.2, hfree _ (hDs x hx)⟩
              · refine ⟨_, hfree, hDs, ?_⟩
                rw [mkRD_Hs e1 (by simp)]
                exact hH0
              · intro D hD
                obtain ⟨j, o, ho, h1, h2⟩ := s4 D (by rw [hlen]; exact hD)
                exact ⟨j, o, by rw [← hget]; exact ho, h1, h2⟩
            refine wpIn_region_any hm ?_
            have hHR : HR M σ H.get w.drew ∧ Stp M st.H.get w M H.get w.drew := by
              have hup : ∀ {k b}, H.get k = some b → b.live = true → st.H.get k = some b := fun {k b} g l => by
                rw [r3 k] at g
                split at g
                · cases g; cases l
                · exact g
              have hdn : ∀ k b, st.H.get k = some b → H.get k = some b := fun k b g => by
                rw [r3 k, if_neg]
                · exact g
                · intro hk; rw [hfree k hk] at g; cases g
              refine ⟨⟨fun k b g l => ?_, fun k1 k2 b1 b2 p1 p2 g1 l1 g2 l2 m1 m2 e => hst.hp.inj k1 k2 b1 b2 p1 p2 (hup g1 l1) l1 (hup g2 l2) l2 m1 m2 e, fun k p hp => ?_, fun x hx => ⟨(hst.hp.gl x hx).1.same (w := w) (w' := w.drew) rfl, fun k b p g l m => (hst.hp.gl x hx).2 k b p (hup g l) l m⟩⟩,
                ⟨Le.refl _, rfl, rfl, rfl, Nat.le_refl _, fun _ _ _ => rfl, fun k hk => hdn k _ hk, fun _ _ h => .inl h, fun k b hb => ⟨b, hdn k b hb⟩, fun k b p g l m => .inr ⟨k, b, p, hup g l, l, m, rfl⟩⟩⟩
              · obtain ⟨p, hp, hb⟩ := hst.hp.blk k b (hup g l) l
                exact ⟨p, hp, hb.same (w := w) (w' := w.drew) rfl⟩
              · obtain ⟨b, hb⟩ := hst.hp.dom k p hp
                exact ⟨b, hdn k b hb⟩
            have hdn0 : ∀ j, dn (Array.replicate opa.size false) j = false := fun j => by
              unfold dn
              rw [Array.getD_eq_getD_getElem?, Array.getElem?_replicate]
              split <;> rfl
            have hRel : (mkRD ancs d).Rel σ opa st.tm nt a.defers M st.H.get w (Array.replicate opa.size false) a w.drew M 0 := by
              have hHs0 : (mkRD ancs d).Hs 0 = H := mkRD_Hs e1 (by simp)
              have hHD : (mkRD ancs d).HD (dn (Array.replicate opa.size false)) 0 = H.get := by
                unfold RD.HD
                rw [hHs0]
                have : (mkRD ancs d).pend (dn (Array.replicate opa.size false)) 0 = [] := by
                  unfold RD.pend
                  rw [List.map_eq_nil_iff, List.filter_eq_nil_iff]
                  intro x _
                  rw [hdn0]; simp
                rw [this]; rfl
              refine ⟨fun j k h => (by rw [hdn0] at h; cases h), Nat.zero_le _, fun r hr => (by rw [hdn0]; simp), hst.tm.1, rfl, fun i o t _ h => (by rw [hdn0] at h; cases h), fun t x e _ => hst.tm.opd _ _ e, by rw [hHD]; exact hHR.1, by rw [hHD]; exact hHR.2, ?_, ?_⟩
              · intro x hx _
                exact hst.hp.unplaced (hfree _ (hDs x hx))
              · intro x hx _
                rw [hHs0, r3, if_pos (hDs x hx)]
            refine RD.all rd hcall ok (fun t x e => by rw [← hst.tm.1]; exact hst.tm.lt t x e) ?_ opa.size (by simp) ?_ hRel
            · intro l a' w' M' q hR hdn
              have hq : q = d.cs.length := by
                have h1 : q ≤ d.cs.length := hR.hq
                rcases Nat.lt_or_ge q d.cs.length with h2 | h2
                · have h3 := (hR.nf q h2).1 (hdn _ (by
                    have := (e2.cs _ (mkRD_cs (ancs := ancs) (dF := d) h2)).2
                    omega))
                  omega
                · omega
              subst hq
              refine hQ M' a' w' ⟨⟨hR.sz, fun k t x hk => ?_⟩, ?_, by rw [hR.df]; exact hst.df.mono hR.st.le⟩ ?_
              · obtain ⟨h1, h2⟩ := finE_spec opa.toList (fun k t x h => (hst.tm.2 k t x h).1) k t x hk
                rcases h2 with ⟨j, o, hj, hd, hx⟩ | ⟨h2, h3⟩
                · rw [hget] at hj
                  refine ⟨h1, ok.lt j o t hj hd, ?_⟩
                  rw [hx, Nat.zero_add]
                  exact hR.new j o t hj (hdn j (Array.getElem?_eq_some_iff.1 hj).1) hd
                · obtain ⟨k1, k2, k3⟩ := hst.tm.2 k t x h2
                  refine ⟨k1, k2, hR.old t x (evO_of (by rw [← k1]; exact h2)) fun i o ho _ e => ?_⟩
                  exact h3 o (List.mem_of_getElem? (by rw [hget]; exact ho)) e
              all_goals
                have hfin : (mergeE (d.As.filter fun x => !d.mg.testBit x.1) d.H).get = (mkRD ancs d).HD (dn l) d.cs.length := by
                  rw [mergeE_get]
                  unfold RD.HD RD.pend
                  have hHm : (mkRD ancs d).Hs d.cs.length = d.H := by
                    have hl := e2.len
                    have hh := e2.head
                    rw [mkRD_Hs (DExt.refl d) (by omega)]
                    match hhs : d.hs, hl, hh with
                    | x :: xs, hl, hh =>
                      simp at hl hh
                      subst hh
                      simp only [List.reverse_cons]
                      rw [List.getD_eq_getElem?_getD, List.getElem?_append_right (by simp; omega)]
                      simp [← hl]
                  rw [hHm]
                  congr 2
                  show _ = List.filter _ d.As
                  apply List.filter_congr
                  intro x hx
                  rw [mrg_eq e2 (DExt.refl d)]
                  obtain ⟨-, ⟨o, ho, -⟩, -⟩ := e2.asi x hx
                  rw [hdn x.1 (by have := (List.getElem?_eq_some_iff.1 ho).1; omega)]
                  rfl
                simp only [hfin]
              · exact hR.hp
              · exact hR.st
            · have : ∀ n, left (Array.replicate opa.size false) n ≤ n := fun n => by
                induction n with
                | zero => simp [left]
                | succ n ih => simp only [left, hdn0]; omega
              exact this _
          · cases h
/-- the evaluator -/
noncomputable def evalE (P : Program) (L : Nat) : Nat → CallE := callE P (drawE P) L
theorem evalE_ok (hm : P.follows .mixedOrders = true) (L n : Nat) : CallOK P σ (evalE P L n) := callE_ok (fun call h => drawE_ok hm h) n
theorem hr_empty (w : World) (hG : ∀ x ∈ Tab.globs, GR σ x w) : HR (fun _ => none) σ (Tr.leaf : Tr Blk).get w :=
  ⟨fun k b g => (by rw [Tr.get_leaf] at g; cases g), fun k k' b b' p p' g => (by rw [Tr.get_leaf] at g; cases g), fun k p h => (by cases h), fun x hx => ⟨hG x hx, fun k b p g => (by rw [Tr.get_leaf] at g; cases g)⟩⟩
/-- A FUNCTION OF PLAIN DATA THAT EVALUATES TO A CLEAN VALUE -/
theorem eval_tab (hm : P.follows .mixedOrders = true) {L n : Nat} {f : FuncId} {args : List Value} {v : Value} (h : (match evalE P L n (.fn f) args .leaf 0 with | some (x, _, _) => veq x v && clean x | none => false) = true)
    (w : World) (hG : ∀ x ∈ Tab.globs, GR σ x w) {vs : List Value} (hvs : VRs (fun _ => none) σ args vs) :
    Calls P f vs.toArray w fun e w' => e = .returned v ∧ Below w.heap.size w w' := by
  split at h
  · rename_i x H nx hx
    rw [Bool.and_eq_true] at h
    refine ((evalE_ok (σ := σ) hm L n).fn f args .leaf 0 x H nx hx _ w vs (hr_empty w hG) hvs).mono ?_
    rintro e w' ⟨u, M', rfl, hvr, -, hs⟩
    rw [hvr.eq_of_clean h.2, veq_eq h.1]
    refine ⟨rfl, ?_⟩
    have : (Tr.leaf : Tr Blk).get = fun _ => none := by funext k; exact Tr.get_leaf k
    rw [this] at hs
    exact hs.below
  · cases h
end
end Go.Proofs.Ytdhdaknfmpfegaa.Ev
namespace Go.Proofs.Ytdhdaknfmpfegaa.Ev
open Go Go.RowKit
/-- with facts about what stays open -/
theorem eval_facts {P : Program} (T : List Fact) (G : List (Nat × List Value)) (hm : P.follows .mixedOrders = true) {L n : Nat} {f : FuncId} {args : List Value} {v : Value} (h : (match @evalE ⟨T, G⟩ P L n (.fn f) args .leaf 0 with | some (x, _, _) => veq x v && clean x | none => false) = true)
    (σ : Nat → Value) (w : World) (hG : ∀ x ∈ G, GR σ x w) {vs : List Value} (hvs : VRs (fun _ => none) σ args vs) (hT : ∀ f ∈ T, @Fact.Holds ⟨T, G⟩ P σ f) :
    Calls P f vs.toArray w fun e w' => e = .returned v ∧ Below w.heap.size w w' :=
  @eval_tab ⟨T, G⟩ P σ (@TabOK.mk ⟨T, G⟩ P σ hT) hm L n f args v h w hG vs hvs
theorem eval_clean {P : Program} (hm : P.follows .mixedOrders = true) {L n : Nat} {f : FuncId} {args : List Value} {v : Value} (h : (match @evalE ⟨[], []⟩ P L n (.fn f) args .leaf 0 with | some (x, _, _) => veq x v && clean x | none => false) = true)
    (σ : Nat → Value) (w : World) {vs : List Value} (hvs : VRs (fun _ => none) σ args vs) :
    Calls P f vs.toArray w fun e w' => e = .returned v ∧ Below w.heap.size w w' :=
  eval_facts [] [] hm h σ w (fun x hx => by cases hx) hvs (fun f hf => by cases hf)
end Go.Proofs.Ytdhdaknfmpfegaa.Ev
end
