/-
  A checked evaluator, part N: facts about values that stay open.
-/
import Derived.Test.YtlpepmhpnmnpkaaDoorEvM
set_option linter.unusedVariables false
set_option linter.unusedSimpArgs false
set_option linter.unusedSectionVars false
namespace Go.Proofs.YtlpepmhpnmnpkaaDoor.Ev
open Go Go.RowKit
variable [Tab]

def inst (σ : Nat → Value) : Value → Value
  | .chan (some i) => σ i
  | x => x
def okv (σ : Nat → Value) (x : Value) : Prop := (∃ i, x = .chan (some i) ∧ (σ i).oneCell' = true) ∨ clean x = true
def Fact.Holds (P : Program) (σ : Nat → Value) : Fact → Prop
  | .bin op u v y => okv σ u ∧ okv σ v ∧ okv σ y ∧ ∀ (t : TypeId) (x z : Operand) (w : World), ((do eqGuard op t x z (inst σ u) (inst σ v); binOp op t (inst σ u) (inst σ v) : Sem Value)).run P w = .ok (inst σ y) w
  | .len t u y => okv σ u ∧ okv σ y ∧ ∀ (ty : TypeId) (w : World), (Builtin.len_ #[t] ty #[inst σ u]).run P w = .ok (inst σ y) w
  | .conv s d u y => okv σ u ∧ okv σ y ∧ ∀ (w : World), (convert s d (inst σ u)).run P w = .ok (inst σ y) w
  | .call f args y => (∀ x ∈ args, okv σ x) ∧ ∃ u, VR (fun _ => none) σ y u ∧ ∀ (w : World), (∀ x ∈ Tab.globs, GR σ x w) → Calls P f (args.map (inst σ)).toArray w fun e w' => e = .returned u ∧ Below w.heap.size w w'
  | .un op u y => okv σ u ∧ okv σ y ∧ ∀ (w : World), (Op.unary op (inst σ u)).run P w = .ok (inst σ y) w
  | .seq t x y => okv σ x ∧ okv σ y ∧ ∀ (us vs : List Value) (tx tz : Operand) (w : World),
      ((do eqGuard .eql t tx tz (.agg ⟨inst σ x :: us⟩) (.agg ⟨inst σ y :: vs⟩); binOp .eql t (.agg ⟨inst σ x :: us⟩) (.agg ⟨inst σ y :: vs⟩) : Sem Value)).run P w = .ok (.bool false) w ∧
      ((do eqGuard .neq t tx tz (.agg ⟨inst σ x :: us⟩) (.agg ⟨inst σ y :: vs⟩); binOp .neq t (.agg ⟨inst σ x :: us⟩) (.agg ⟨inst σ y :: vs⟩) : Sem Value)).run P w = .ok (.bool true) w
  | .mx hi x y r => okv σ x ∧ okv σ y ∧ okv σ r ∧ ∀ (ts : Array TypeId) (ty : TypeId) (w : World), (if hi = true then Builtin.max_ ts ty #[inst σ x, inst σ y] else Builtin.min_ ts ty #[inst σ x, inst σ y]).run P w = .ok (inst σ r) w
  | .same f => ∀ (x : Value) (w : World), (callFunc f #[x]).run P w = .ok (.value x) w
  | .mkNZ f e => ∃ (ps : Array TypeId) (t : TypeId), P.underlying t = some (.slice e) ∧ ∀ (args : Array Value) (w : World), (callFunc f args).run P w = ((do pure (.value (← Extern.BytealgMakeNoZero.makeNoZero ps #[t] args)) : Sem Next)).run P w
  | .ext f g => ∀ (args : Array Value) (w : World), (callFunc f args).run P w = ((do pure (.value (← g args)) : Sem Next)).run P w
  | .bld _ => True
  | .st f args H nx v H' nx' => ∀ (M : Mp) (w : World) (vs : List Value), HR M σ H.get w → VRs M σ args vs →
      Calls P f vs.toArray w fun e w' => ∃ u M', e = .returned u ∧ VR M' σ v u ∧ HR M' σ H'.get w' ∧ Stp M H.get w M' H'.get w'
class TabOK (P : Program) (σ : Nat → Value) : Prop where
  ok : ∀ f ∈ Tab.table, f.Holds P σ
def bopEq (a b : BinOp) : Bool := decide (a = b)
def bytesEq : List UInt8 → List UInt8 → Bool
  | [], [] => true
  | a :: l, b :: m => Nat.beq a.toNat b.toNat && bytesEq l m
  | _, _ => false
theorem bytesEq_eq : ∀ {a b : List UInt8}, bytesEq a b = true → a = b
  | [], [], _ => rfl
  | a :: l, b :: m, h => by
    simp only [bytesEq, Bool.and_eq_true] at h
    rw [UInt8.toNat_inj.1 (Nat.eq_of_beq_eq_true h.1), bytesEq_eq h.2]
  | [], _ :: _, h => by cases h
  | _ :: _, [], h => by cases h
def geq : Value → Value → Bool
  | .chan (some i), .chan (some j) => Nat.beq i j
  | .int k a, .int l b => kEq k l && iBeq a b
  | .bool a, .bool b => match a, b with | true, true => true | false, false => true | _, _ => false
  | .string a, .string b => bytesEq a.data.toList b.data.toList
  | _, _ => false
theorem geq_eq {a b : Value} (h : geq a b = true) : a = b := by
  unfold geq at h
  split at h
  · rw [Nat.eq_of_beq_eq_true h]
  · rw [Bool.and_eq_true] at h
    rw [kEq_eq h.1]
    have := h.2
    rw [iBeq_eq] at this
    rw [eq_of_beq this]
  · split at h <;> first | rfl | cases h
  · rename_i a b
    have := bytesEq_eq h
    obtain ⟨⟨a⟩⟩ := a
    obtain ⟨⟨b⟩⟩ := b
    simp at this
    rw [this]
  · cases h
def geqs : List Value → List Value → Bool
  | [], [] => true
  | a :: l, b :: m => geq a b && geqs l m
  | _, _ => false
theorem geqs_eq : ∀ {a b : List Value}, geqs a b = true → a = b
  | [], [], _ => rfl
  | a :: l, b :: m, h => by
    simp only [geqs, Bool.and_eq_true] at h
    rw [geq_eq h.1, geqs_eq h.2]
  | [], _ :: _, h => by cases h
  | _ :: _, [], h => by cases h
def binF (op : BinOp) (u v : Value) : List Fact → Option Value
  | [] => none
  | .bin op' u' v' y :: l => match bopEq op op' && geq u u' && geq v v' with
    | true => some y
    | false => binF op u v l
  | _ :: l => binF op u v l
def lenF (t : TypeId) (u : Value) : List Fact → Option Value
  | [] => none
  | .len t' u' y :: l => match Nat.beq t t' && geq u u' with
    | true => some y
    | false => lenF t u l
  | _ :: l => lenF t u l
def convF (s d : TypeId) (u : Value) : List Fact → Option Value
  | [] => none
  | .conv s' d' u' y :: l => match Nat.beq s s' && Nat.beq d d' && geq u u' with
    | true => some y
    | false => convF s d u l
  | _ :: l => convF s d u l
def callF (f : FuncId) (args : List Value) : List Fact → Option Value
  | [] => none
  | .call f' args' y :: l => match Nat.beq f f' && geqs args args' with
    | true => some y
    | false => callF f args l
  | _ :: l => callF f args l
def unF (op : UnOp) (u : Value) : List Fact → Option Value
  | [] => none
  | .un op' u' y :: l => match decide (op = op') && geq u u' with
    | true => some y
    | false => unF op u l
  | _ :: l => unF op u l
def hasSeq (t : TypeId) (x y : Value) : List Fact → Bool
  | [] => false
  | .seq t' x' y' :: l => match Nat.beq t t' && geq x x' && geq y y' with
    | true => true
    | false => hasSeq t x y l
  | _ :: l => hasSeq t x y l
def seqF (op : BinOp) (t : TypeId) (u v : Value) (l : List Fact) : Option Value :=
  match u, v with
  | .agg ⟨x :: _⟩, .agg ⟨y :: _⟩ => match hasSeq t x y l with
    | true => match op with
      | .eql => some (.bool false)
      | .neq => some (.bool true)
      | _ => none
    | false => none
  | _, _ => none
def mxF (hi : Bool) (x y : Value) : List Fact → Option Value
  | [] => none
  | .mx hi' x' y' r :: l => match (hi == hi') && geq x x' && geq y y' with
    | true => some r
    | false => mxF hi x y l
  | _ :: l => mxF hi x y l
section
variable {P : Program} {M : Mp} {σ : Nat → Value} {H : Tr Blk} {w : World}
theorem hasSeq_ok {t : TypeId} {x y : Value} {l : List Fact} (hl : ∀ f ∈ l, f.Holds P σ) (h : hasSeq t x y l = true) : (Fact.seq t x y).Holds P σ := by
  induction l with
  | nil => cases h
  | cons g l ih =>
    have ih := ih fun f hf => hl f (List.mem_cons_of_mem _ hf)
    have h0 := hl g List.mem_cons_self
    cases g with
    | seq t' x' y' =>
      simp only [hasSeq] at h
      split at h
      · rename_i hq
        simp only [Bool.and_eq_true] at hq
        rw [Nat.eq_of_beq_eq_true hq.1.1, geq_eq hq.1.2, geq_eq hq.2]; exact h0
      · exact ih h
    | _ => exact ih h
theorem mxF_ok {hi : Bool} {x y r : Value} {l : List Fact} (hl : ∀ f ∈ l, f.Holds P σ) (h : mxF hi x y l = some r) : (Fact.mx hi x y r).Holds P σ := by
  induction l with
  | nil => cases h
  | cons g l ih =>
    have ih := ih fun f hf => hl f (List.mem_cons_of_mem _ hf)
    have h0 := hl g List.mem_cons_self
    cases g with
    | mx hi' x' y' r' =>
      simp only [mxF] at h
      split at h
      · rename_i hq
        simp only [Bool.and_eq_true, beq_iff_eq] at hq
        cases h
        rw [hq.1.1, geq_eq hq.1.2, geq_eq hq.2]; exact h0
      · exact ih h
    | _ => exact ih h
theorem callF_ok {f : FuncId} {args : List Value} {y : Value} {l : List Fact} (hl : ∀ f ∈ l, f.Holds P σ) (h : callF f args l = some y) : (Fact.call f args y).Holds P σ := by
  induction l with
  | nil => cases h
  | cons g l ih =>
    have ih := ih fun f hf => hl f (List.mem_cons_of_mem _ hf)
    have h0 := hl g List.mem_cons_self
    cases g with
    | call f' args' y' =>
      simp only [callF] at h
      split at h
      · rename_i hq
        simp only [Bool.and_eq_true] at hq
        cases h
        rw [Nat.eq_of_beq_eq_true hq.1, geqs_eq hq.2]; exact h0
      · exact ih h
    | _ => exact ih h
theorem unF_ok {op : UnOp} {u y : Value} {l : List Fact} (hl : ∀ f ∈ l, f.Holds P σ) (h : unF op u l = some y) : (Fact.un op u y).Holds P σ := by
  induction l with
  | nil => cases h
  | cons g l ih =>
    have ih := ih fun f hf => hl f (List.mem_cons_of_mem _ hf)
    have h0 := hl g List.mem_cons_self
    cases g with
    | un op' u' y' =>
      simp only [unF] at h
      split at h
      · rename_i hq
        simp only [Bool.and_eq_true, decide_eq_true_eq] at hq
        cases h
        rw [hq.1, geq_eq hq.2]; exact h0
      · exact ih h
    | _ => exact ih h
theorem binF_ok {op : BinOp} {u v y : Value} {l : List Fact} (hl : ∀ f ∈ l, f.Holds P σ) (h : binF op u v l = some y) : (Fact.bin op u v y).Holds P σ := by
  induction l with
  | nil => cases h
  | cons f l ih =>
    have ih := ih fun f hf => hl f (List.mem_cons_of_mem _ hf)
    have h0 := hl f List.mem_cons_self
    cases f with
    | bin op' u' v' y' =>
      simp only [binF] at h
      split at h
      · rename_i hq
        simp only [Bool.and_eq_true, bopEq, decide_eq_true_eq] at hq
        cases h
        rw [hq.1.1, geq_eq hq.1.2, geq_eq hq.2]; exact h0
      · exact ih h
    | _ => exact ih h
theorem lenF_ok {t : TypeId} {u y : Value} {l : List Fact} (hl : ∀ f ∈ l, f.Holds P σ) (h : lenF t u l = some y) : (Fact.len t u y).Holds P σ := by
  induction l with
  | nil => cases h
  | cons f l ih =>
    have ih := ih fun f hf => hl f (List.mem_cons_of_mem _ hf)
    have h0 := hl f List.mem_cons_self
    cases f with
    | len t' u' y' =>
      simp only [lenF] at h
      split at h
      · rename_i hq
        simp only [Bool.and_eq_true] at hq
        cases h
        rw [Nat.eq_of_beq_eq_true hq.1, geq_eq hq.2]; exact h0
      · exact ih h
    | _ => exact ih h
theorem convF_ok {s d : TypeId} {u y : Value} {l : List Fact} (hl : ∀ f ∈ l, f.Holds P σ) (h : convF s d u l = some y) : (Fact.conv s d u y).Holds P σ := by
  induction l with
  | nil => cases h
  | cons f l ih =>
    have ih := ih fun f hf => hl f (List.mem_cons_of_mem _ hf)
    have h0 := hl f List.mem_cons_self
    cases f with
    | conv s' d' u' y' =>
      simp only [convF] at h
      split at h
      · rename_i hq
        simp only [Bool.and_eq_true] at hq
        cases h
        rw [Nat.eq_of_beq_eq_true hq.1.1, Nat.eq_of_beq_eq_true hq.1.2, geq_eq hq.2]; exact h0
      · exact ih h
    | _ => exact ih h
theorem inst_clean {x : Value} (h : clean x = true) : inst σ x = x := by
  unfold inst
  split
  · simp [clean] at h
  · rfl
theorem okv.vr {x : Value} (h : okv σ x) : VR M σ x (inst σ x) := by
  rcases h with ⟨i, rfl, h⟩ | h
  · exact .opq i h
  · rw [inst_clean h]; exact VR.of_clean _ h
theorem okv.eq {x u : Value} (h : okv σ x) (hr : VR M σ x u) : u = inst σ x := by
  rcases h with ⟨i, rfl, h⟩ | h
  · cases hr; rfl
  · rw [inst_clean h]; exact hr.eq_of_clean h
theorem seqF_ok {op : BinOp} {t : TypeId} {u v y u' v' : Value} {l : List Fact} (hl : ∀ f ∈ l, f.Holds P σ) (h : seqF op t u v l = some y) (hu : VR M σ u u') (hv : VR M σ v v') (tx tz : Operand) :
    clean y = true ∧ ((do eqGuard op t tx tz u' v'; binOp op t u' v' : Sem Value)).run P w = .ok y w := by
  unfold seqF at h
  split at h
  · rename_i x xs z zs
    split at h
    · rename_i hq
      obtain ⟨f1, f2, f3⟩ := hasSeq_ok hl hq
      cases hu with
      | agg hu => cases hu with
        | cons hx hxs => cases hv with
          | agg hv => cases hv with
            | cons hz hzs =>
              rw [f1.eq hx, f2.eq hz]
              split at h
              · cases h; exact ⟨rfl, (f3 _ _ tx tz w).1⟩
              · cases h; exact ⟨rfl, (f3 _ _ tx tz w).2⟩
              · cases h
    · cases h
  · cases h
end
end Go.Proofs.YtlpepmhpnmnpkaaDoor.Ev
namespace Go.Proofs.YtlpepmhpnmnpkaaDoor.Ev
open Go Go.RowKit
section
variable {tabI : Tab} {P : Program} {σ : Nat → Value}
/-- two whole numbers -/
theorem Fact.num {op : BinOp} {u v y : Value} {k : IntKind} {a b : Int} (hu : okv σ u) (hv : okv σ v) (hy : okv σ y) (h1 : inst σ u = .int k a) (h2 : inst σ v = .int k b) (h : intOp op k a b = some (inst σ y)) : (Fact.bin op u v y).Holds P σ :=
  ⟨hu, hv, hy, fun t x z w => by rw [h1, h2]; exact (intOp_run h t x z).1⟩
/-- an open number and a given one -/
theorem Fact.cmpC {op : BinOp} {i : Nat} {k : IntKind} {a b : Int} {r : Bool} (hi : σ i = .int k a) (h : intOp op k a b = some (.bool r)) : (Fact.bin op (.chan (some i)) (.int k b) (.bool r)).Holds P σ :=
  Fact.num (.inl ⟨i, rfl, by rw [hi]; rfl⟩) (.inr rfl) (.inr rfl) hi rfl h
/-- two open numbers -/
theorem Fact.cmpO {op : BinOp} {i j : Nat} {k : IntKind} {a b : Int} {r : Bool} (hi : σ i = .int k a) (hj : σ j = .int k b) (h : intOp op k a b = some (.bool r)) : (Fact.bin op (.chan (some i)) (.chan (some j)) (.bool r)).Holds P σ :=
  Fact.num (.inl ⟨i, rfl, by rw [hi]; rfl⟩) (.inl ⟨j, rfl, by rw [hj]; rfl⟩) (.inr rfl) hi hj h
/-- the length of an open string -/
theorem Fact.lenS {t : TypeId} {i j : Nat} {s : ByteArray} (hi : σ i = .string s) (hj : σ j = goInt s.size) (hu : P.underlying t = some .string) : (Fact.len t (.chan (some i)) (.chan (some j))).Holds P σ :=
  ⟨.inl ⟨i, rfl, by rw [hi]; rfl⟩, .inl ⟨j, rfl, by rw [hj]; rfl⟩, fun ty w => by simp [inst, hi, hj, Builtin.len_, run_underlying' hu]⟩
/-- an open number of another kind -/
theorem Fact.convC {s d : TypeId} {i j : Nat} {u v : Value} (hi : σ i = u) (hj : σ j = v) (h1 : u.oneCell' = true) (h2 : v.oneCell' = true) (h : ∀ w, (convert s d u).run P w = .ok v w) : (Fact.conv s d (.chan (some i)) (.chan (some j))).Holds P σ :=
  ⟨.inl ⟨i, rfl, by rw [hi]; exact h1⟩, .inl ⟨j, rfl, by rw [hj]; exact h2⟩, fun w => by simp only [inst, hi, hj]; exact h w⟩
end
end Go.Proofs.YtlpepmhpnmnpkaaDoor.Ev
