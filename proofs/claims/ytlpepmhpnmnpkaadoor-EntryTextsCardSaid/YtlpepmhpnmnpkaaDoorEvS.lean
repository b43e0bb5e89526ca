/-
  A checked evaluator, part S: a region whose order is open, evaluated and checked.
-/
import Derived.Test.YtlpepmhpnmnpkaaDoorEvR
set_option linter.unusedVariables false
set_option linter.unusedSimpArgs false
set_option linter.unusedSectionVars false
namespace Go.Proofs.YtlpepmhpnmnpkaaDoor.Ev
open Go Go.RowKit
variable [Tab]

/-! ### what waits for what -/
def dmL : List Edge → Nat
  | [] => 0
  | e :: l => match Region.binds .any e with
    | true => Nat.lor (2 ^ e.on) (dmL l)
    | false => dmL l
def dmask (o : Oper) : Nat := dmL o.after.toList
theorem dmL_spec : ∀ {l : List Edge} {k : Nat}, (dmL l).testBit k = true → ∃ e ∈ l, Region.binds .any e = true ∧ e.on = k
  | [], k, h => by simp [dmL] at h
  | e :: l, k, h => by
    simp only [dmL] at h
    split at h
    · rename_i hb
      have h' : (2 ^ e.on ||| dmL l).testBit k = true := h
      rw [Nat.testBit_or, Bool.or_eq_true, Nat.testBit_two_pow] at h'
      rcases h' with h1 | h1
      · exact ⟨e, by simp, hb, by simpa using h1⟩
      · obtain ⟨e', h2, h3⟩ := dmL_spec h1; exact ⟨e', by simp [h2], h3⟩
    · obtain ⟨e', h2, h3⟩ := dmL_spec h; exact ⟨e', by simp [h2], h3⟩
theorem dmL_mem : ∀ {l : List Edge} {e : Edge}, e ∈ l → Region.binds .any e = true → (dmL l).testBit e.on = true
  | x :: l, e, h, hb => by
    simp only [dmL]
    rcases List.mem_cons.1 h with rfl | h
    · rw [hb]
      show (2 ^ e.on ||| dmL l).testBit e.on = true
      rw [Nat.testBit_or, Nat.testBit_two_pow]; simp
    · split
      · show (2 ^ x.on ||| dmL l).testBit e.on = true
        rw [Nat.testBit_or, dmL_mem h hb]; simp
      · exact dmL_mem h hb
def orSel : Nat → List Nat → Nat
  | _, [] => 0
  | m, x :: l => match Nat.beq (m % 2) 0 with
    | true => orSel (m / 2) l
    | false => Nat.lor x (orSel (m / 2) l)
theorem orSel_spec : ∀ {l : List Nat} {m k : Nat}, (orSel m l).testBit k = true → ∃ i, m.testBit i = true ∧ (l.getD i 0).testBit k = true
  | [], m, k, h => by simp [orSel] at h
  | x :: l, m, k, h => by
    simp only [orSel] at h
    split at h
    · obtain ⟨i, h1, h2⟩ := orSel_spec h
      exact ⟨i + 1, by rw [Nat.testBit_succ]; exact h1, by simpa using h2⟩
    · rename_i hm
      have h' : (x ||| orSel (m / 2) l).testBit k = true := h
      rw [Nat.testBit_or, Bool.or_eq_true] at h'
      rcases h' with h1 | h1
      · have hm' : m % 2 ≠ 0 := fun e => by rw [e] at hm; simp at hm
        exact ⟨0, by rw [Nat.testBit_zero]; simp; omega, by simpa using h1⟩
      · obtain ⟨i, h2, h3⟩ := orSel_spec h1
        exact ⟨i + 1, by rw [Nat.testBit_succ]; exact h2, by simpa using h3⟩
def sub (a b : Nat) : Bool := Nat.beq (Nat.land a b) a
theorem sub_spec {a b k : Nat} (h : sub a b = true) (hk : a.testBit k = true) : b.testBit k = true := by
  have h1 : a &&& b = a := Nat.eq_of_beq_eq_true h
  rw [← h1, Nat.testBit_and, Bool.and_eq_true] at hk
  exact hk.2
def isNF : Op → Bool
  | .store .. | .mapUpdate .. | .insert .. | .mapEntry .. | .entryStore .. | .next .. | .range .. => true
  | .call c => match c.callee with
    | .builtin b => match b with
      | .len | .cap | .min | .max => false
      | _ => true
    | _ => true
  | _ => false
def isNFP (P : Program) (op : Op) : Bool :=
  match op with
  | .convert _ d _ => match P.underlying d with
    | some (.slice _) => true
    | _ => false
  | op => isNF op
def isRead : Op → Bool
  | .load .. | .lookup .. | .convert .. | .entry .. => true
  | .call c => match c.callee with
    | .builtin .len => true
    | _ => false
  | _ => false
theorem heapless {P : Program} {o : Oper} (h1 : isNFP P o.op = false) (h2 : isRead o.op = false) (ρ : Operand → Option Value) (H H' : Tr Blk) (nx nx' : Nat) : evOp P o ρ H nx = evOp P o ρ H' nx' := by
  unfold evOp compO
  cases ho : o.op <;> simp only [ho, isNFP, isNF, isRead, Bool.true_eq_false] at h1 h2 ⊢
  rename_i c
  unfold evCall
  cases hc : c.callee <;> simp only [hc, Bool.true_eq_false] at h1 h2 ⊢
  rename_i b
  unfold evC_builtin
  cases b <;> simp only [Bool.true_eq_false] at h1 h2 ⊢ <;> rfl
def firstE (P : Program) (nf : Bool) (done : Nat) : List Oper → List Nat → Nat → Option Nat
  | o :: l, d :: ds, i => match done.testBit i with
    | true => firstE P nf done l ds (i + 1)
    | false => match sub d done, isNFP P o.op, nf with
      | true, true, true => some i
      | true, false, false => some i
      | _, _, _ => firstE P nf done l ds (i + 1)
  | _, _, _ => none
def planE (P : Program) (ops : List Oper) (ds : List Nat) : Nat → Nat → List Nat
  | 0, _ => []
  | f + 1, done => match firstE P false done ops ds 0 with
    | some j => j :: planE P ops ds f (Nat.lor done (2 ^ j))
    | none => match firstE P true done ops ds 0 with
      | some j => j :: planE P ops ds f (Nat.lor done (2 ^ j))
      | none => []
def ancT (ds : List Nat) (n : Nat) : List Nat → Tr Nat → Tr Nat
  | [], A => A
  | j :: l, A => ancT ds n l (A.set (key j) (Nat.lor (ds.getD j 0) (orSel (ds.getD j 0) ((List.range n).map fun k => (A.get (key k)).getD 0))))
def topoE (ds : List Nat) (n : Nat) : List Nat → Nat → Option Nat
  | [], d => some d
  | j :: l, d => match Nat.blt j n, sub (ds.getD j 0) d with
    | true, true => topoE ds n l (Nat.lor d (2 ^ j))
    | _, _ => none
def distE : List Oper → Bool
  | [] => true
  | o :: l => (match o.dst with
    | none => true
    | some d => l.all fun o' => match o'.dst with | some d' => !(Nat.beq d d') | none => true) && distE l
/-- an order to evaluate in, and all that each operation waits for -/
def statE (P : Program) (ops : List Oper) : Option (List Nat × List Nat) :=
  let ds := ops.map dmask
  let n := ops.length
  let pi := planE P ops ds n 0
  let A := ancT ds n pi .leaf
  let ancs := (List.range n).map fun k => (A.get (key k)).getD 0
  match distE ops, (List.range n).all fun j => Nat.beq (ancs.getD j 0) (Nat.lor (ds.getD j 0) (orSel (ds.getD j 0) ancs)), topoE ds n pi 0 with
  | true, true, some d => match (List.range n).all fun j => d.testBit j with
    | true => some (pi, ancs)
    | false => none
  | _, _, _ => none
theorem distE_spec (l : List Oper) : distE l = true → ∀ (i j : Nat) (oi oj : Oper) (d : Tmp), i < j → l[i]? = some oi → l[j]? = some oj → oi.dst = some d → oj.dst ≠ some d := by
  induction l with
  | nil => intro _ i j oi oj d _ hi; simp at hi
  | cons o l ih =>
    intro h i j oi oj d hij hi hj hd
    simp only [distE, Bool.and_eq_true] at h
    cases j with
    | zero => omega
    | succ j =>
      rw [List.getElem?_cons_succ] at hj
      cases i with
      | zero =>
        rw [List.getElem?_cons_zero, Option.some.injEq] at hi
        have h1 := h.1
        rw [hi, hd] at h1
        have h2 := List.all_eq_true.1 h1 oj (List.mem_of_getElem? hj)
        intro e
        rw [e] at h2
        simp at h2
      | succ i =>
        rw [List.getElem?_cons_succ] at hi
        exact ih h.2 i j oi oj d (by omega) hi hj hd
theorem lor_bit {d j k : Nat} (h : (Nat.lor d (2 ^ j)).testBit k = true) : d.testBit k = true ∨ j = k := by
  have h' : (d ||| 2 ^ j).testBit k = true := h
  rw [Nat.testBit_or, Nat.testBit_two_pow, Bool.or_eq_true] at h'
  exact h'.imp id (fun e => by simpa using e)
theorem topoE_spec {ops : List Oper} {n : Nat} (hn : n = ops.length) (D : Nat → Bool) (l : List Nat) : ∀ {d d' : Nat}, topoE (ops.map dmask) n l d = some d' → (∀ k, d.testBit k = true → D k = true) →
    (∀ k, d'.testBit k = true → D k = true) ∨ ∃ (j : Nat) (o : Oper), ops[j]? = some o ∧ D j = false ∧ ∀ e ∈ o.after, Region.binds .any e = true → D e.on = true := by
  induction l with
  | nil => intro d d' h hD; simp only [topoE, Option.some.injEq] at h; rw [← h]; exact .inl hD
  | cons j l ih =>
    intro d d' h hD
    simp only [topoE] at h
    split at h
    · rename_i h1 h2
      have h1 := blt_lt h1
      have ho : ops[j]? = some (ops[j]'(by omega)) := List.getElem?_eq_getElem (by omega)
      generalize ops[j]'(by omega) = o at ho
      cases hj : D j with
      | true =>
        refine ih h fun k hk => ?_
        rcases lor_bit hk with h3 | h3
        · exact hD k h3
        · rw [← h3]; exact hj
      | false =>
        refine .inr ⟨j, o, ho, hj, fun e he hb => hD _ (sub_spec h2 ?_)⟩
        have : (ops.map dmask).getD j 0 = dmask o := by simp [List.getD, ho]
        rw [this]
        exact dmL_mem (by simpa using he) hb
    · cases h
/-- what statE says -/
theorem statE_spec {P : Program} {ops : List Oper} {pi ancs : List Nat} (h : statE P ops = some (pi, ancs)) :
    distE ops = true ∧ ancs.length = ops.length ∧ (∀ j k, (ancs.getD j 0).testBit k = true → ∃ o, ops[j]? = some o ∧ ∃ e ∈ o.after, Region.binds .any e = true ∧ (e.on = k ∨ (ancs.getD e.on 0).testBit k = true)) ∧
    (∀ D : Nat → Bool, (∃ j, j < ops.length ∧ D j = false) → ∃ (j : Nat) (o : Oper), ops[j]? = some o ∧ D j = false ∧ ∀ e ∈ o.after, Region.binds .any e = true → D e.on = true) := by
  unfold statE at h
  simp only at h
  split at h
  · rename_i d h1 h2 h3
    split at h
    · rename_i h4
      simp only [Option.some.injEq, Prod.mk.injEq] at h
      obtain ⟨rfl, rfl⟩ := h
      refine ⟨h1, by simp, ?_, ?_⟩
      · intro j k hk
        have hj : j < ops.length := by
          rcases Nat.lt_or_ge j ops.length with h | h
          · exact h
          · rw [List.getD_eq_getElem?_getD, List.getElem?_eq_none (by simpa using h)] at hk; simp at hk
        have h5 := Nat.eq_of_beq_eq_true (List.all_eq_true.1 h2 j (List.mem_range.2 hj))
        rw [h5] at hk
        obtain ⟨o, ho⟩ : ∃ o, ops[j]? = some o := ⟨ops[j], by simp [hj]⟩
        have hdm : (ops.map dmask).getD j 0 = dmask o := by simp [List.getD, ho]
        rw [hdm] at hk
        have hk' : (dmask o ||| orSel (dmask o) ((List.range ops.length).map fun k => ((ancT (ops.map dmask) ops.length (planE P ops (ops.map dmask) ops.length 0) Tr.leaf).get (key k)).getD 0)).testBit k = true := hk
        rw [Nat.testBit_or, Bool.or_eq_true] at hk'
        refine ⟨o, ho, ?_⟩
        rcases hk' with h6 | h6
        · obtain ⟨e, he, hb, hk⟩ := dmL_spec h6
          exact ⟨e, by simpa using he, hb, .inl hk⟩
        · obtain ⟨i, h7, h8⟩ := orSel_spec h6
          obtain ⟨e, he, hb, rfl⟩ := dmL_spec h7
          exact ⟨e, by simpa using he, hb, .inr h8⟩
      · rintro D ⟨j, hj, hD⟩
        rcases topoE_spec rfl D _ h3 (fun k hk => by simp at hk) with h5 | h5
        · have := h5 j (List.all_eq_true.1 h4 j (List.mem_range.2 hj))
          rw [hD] at this; cases this
        · exact h5
    · cases h
  · cases h
end Go.Proofs.YtlpepmhpnmnpkaaDoor.Ev
