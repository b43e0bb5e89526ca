/-
  A checked evaluator, part N: facts about values that stay open.
-/
import Derived.Test.YtdhdaknfmpfegaaEvM
section
set_option linter.unusedVariables false
set_option linter.unusedSimpArgs false
set_option linter.unusedSectionVars false
namespace Go.Proofs.Ytdhdaknfmpfegaa.Ev
open Go Go.RowKit
variable [Tab]

def inst (σ : Nat → Value) : Value → Value
  | .chan (some i) => σ i
  | x => x
def okv (σ : Nat → Value) (x : Value) : Prop := (∃ i, x = .chan (some i) ∧ (σ i).oneCell' = true) ∨ clean x = true
def Fact.Holds (P : Program) (σ : Nat → Value) : Fact → Prop
  | .bin op u v y => okv σ u ∧ okv σ v ∧ okv σ y ∧ ∀ (t : TypeId) (x z : Operand) (w : World), ((do eqGuard op t x z (inst σ u) (inst σ v); binOp op t (inst σ u) (inst σ v) : Sem Value)).run P w = .ok (inst σ y) w
  | .len t u y => okv σ u ∧ okv σ y ∧ ∀ (ty : TypeId) (w : World), (Builtin.len_ #[t] ty #[inst σ u]).run P w = .ok (inst σ y) w
  | .conv s d u y => okv σ u ∧ okv σ y ∧ ∀ (w : World), (convert s d (inst σ u)).run P w = .ok (inst σ y) w
  | .call f args y => (∀ x ∈ args, okv σ x) ∧ ∃ u, VR (fun _ => none) σ y u ∧ ∀ (w : World), (∀ x ∈ Tab.globs, GR σ x w) → Calls P f (args.map (inst σ)).toArray w fun e w' => e = .returned u ∧ Below w.heap.size w w'
  | .un op u y => okv σ u ∧ okv σ y ∧ ∀ (w : World), (Op.unary op (inst σ u)).run P w = .ok (inst σ y) w
  | .seq t x y => okv σ x ∧ okv σ y ∧ ∀ (us vs : List Value) (tx tz : Operand) (w : World),
      ((do eqGuard .eql t tx tz (.agg ⟨inst σ x :: us⟩) (.agg ⟨inst σ y :: vs⟩); binOp .eql t (.agg ⟨inst σ x :: us⟩) (.agg ⟨inst σ y :: vs⟩) : Sem Value)).run P w = .ok (.bool false) w ∧
      ((do eqGuard .neq t tx tz (.agg ⟨inst σ x :: us⟩) (.agg ⟨inst σ y :: vs⟩); binOp .neq t (.agg ⟨inst σ x :: us⟩) (.agg ⟨inst σ y :: vs⟩) : Sem Value)).run P w = .ok (.bool true) w
  | .mx hi x y r => okv σ x ∧ okv σ y ∧ okv σ r ∧ ∀ (ts : Array TypeId) (ty : TypeId) (w : World), (if hi = true then Builtin.max_ ts ty #[inst σ x, inst σ y] else Builtin.min_ ts ty #[inst σ x, inst σ y]).run P w = .ok (inst σ r) w
  | .same f => ∀ (x : Value) (w : World), (callFunc f #[x]).run P w = .ok (.value x) w
  | .mkNZ f e => ∃ (ps : Array TypeId) (t : TypeId), P.underlying t = some (.slice e) ∧ ∀ (args : Array Value) (w : World), (callFunc f args).run P w = ((do pure (.value (← Extern.BytealgMakeNoZero.makeNoZero ps #[t] args)) : Sem Next)).run P w
  | .ext f g => ∀ (args : Array Value) (w : World), (callFunc f args).run P w = ((do pure (.value (← g args)) : Sem Next)).run P w
  | .bld _ => True
  | .st f args H nx v H' nx' => ∀ (M : Mp) (w : World) (vs : List Value), HR M σ H.get w → VRs M σ args vs →
      Calls P f vs.toArray w fun e w' => ∃ u M', e = .returned u ∧ VR M' σ v u ∧ HR M' σ H'.get w' ∧ Stp M H.get w M' H'.get w'
class TabOK (P : Program) (σ : Nat → Value) : Prop where
  ok : ∀ f ∈ Tab.table, f.Holds P σ
def bopEq (a b : BinOp) : Bool := decide (a = b)
def bytesEq : List UInt8 → List UInt8 → Bool
  | [], [] => true
  | a :: l, b :: m => Nat.beq a.toNat b.toNat && bytesEq l m
  | _, _ => false
theorem bytesEq_eq : ∀ {a b : List UInt8}, bytesEq a b = true → a = b
  | [], [], _ => rfl
  | a :: l, b :: m, h => by
    simp only [bytesEq, Bool.and_eq_true] at h
    rw [UInt8.toNat_inj.1 (Nat.eq_of_beq_eq_true h.1), bytesEq_eq h.2]
  | [], _ :: _, h => by cases h
  | _ :: _, [], h => by cases h
def geq : Value → Value → Bool
  | .chan (some i), .chan (some j) => Nat.beq i j
  | .int k a, .int l b => kEq k l && iBeq a b
  | .bool a, .bool b => match a, b with | true, true => true | false, false => true | _, _ => false
  | .string a, .string b => bytesEq a.data.toList b.data.toList
  | _, _ => false
theorem geq_eq {a b : Value} (h : geq a b = true) : a = b := by
  unfold geq at h
  split at h
  · rw [Nat.eq_of_beq_eq_true h]
  · rw [Bool.and_eq_true] at h
    rw [kEq_eq h.1]
    have := h.2
    rw [iBeq_eq] at this
    rw [eq_of_beq this]
  · split at h <;> first | rfl | cases h
  · rename_i a b
    have := bytesEq_eq h
    obtain ⟨⟨a⟩⟩ := a
    obtain ⟨⟨b⟩⟩ := b
    simp at this
    rw [this]
  · cases h
def geqs : List Value → List Value → Bool
  | [], [] => true
  | a :: l, b :: m => geq a b && geqs l m
  | _, _ => false
theorem geqs_eq : ∀ {a b : List Value}, geqs a b = true → a = b
  | [], [], _ => rfl
  | a :: l, b :: m, h => by
    simp only [geqs, Bool.and_eq_true] at h
    rw [geq_eq h.1, geqs_eq h.2]
  | [], _ :: _, h => by cases h
  | _ :: _, [], h => by cases h
def binF (op : BinOp) (u v : Value) : List Fact → Option Value
  | [] => none
  | .bin op' u' v' y :: l => match bopEq op op' && geq u u' && geq v v' with
    | true => some y
    | false => binF op u v l
  | _ :: l => binF op u v l
def lenF (t : TypeId) (u : Value) : List Fact → Option Value
  | [] => none
  | .len t' u' y :: l => match Nat.beq t t' && geq u u' with
    | true => some y
    | false => lenF t u l
  | _ :: l => lenF t u l
def convF (s d : TypeId) (u : Value) : List Fact → Option Value
  | [] => none
  | .conv s' d' u' y :: l => match Nat.beq s s' && Nat.beq d d' && geq u u' with
    | true => some y
    | false => convF s d u l
  | _ :: l => convF s d u l
def callF (f : FuncId) (args : List Value) : List Fact → Option Value
  | [] => none
  | .call f' args' y :: l => match Nat.beq f f' && geqs args args' with
    | true => some y
    | false => callF f args l
  | _ :: l => callF f args l
def unF (op : UnOp) (u : Value) : List Fact → Option Value
  | [] => none
  | .un op' u' y :: l => match decide (op = op') && geq u u' with
    | true => some y
    | false => unF op u l
  | _ :: l => unF op u l
def hasSeq (t : TypeId) (x y : Value) : List Fact → Bool
  | [] => false
  | .seq t' x' y' :: l => match Nat.beq t t' && geq x x' && geq y y' with
    | true => true
    | false => hasSeq t x y l
  | _ :: l => hasSeq t x y l
def seqF (op : BinOp) (t : TypeId) (u v : Value) (l : List Fact) : Option Value :=
  match u, v with
  | .agg ⟨x :: _⟩, .agg ⟨y :: _⟩ => match hasSeq t x y l with
    | true => match op with
      | .eql => some (.bool false)
      | .neq => some (.bool true)
      | _ => none
    | false => none
  | _, _ => none
def mxF (hi : Bool) (x y : Value) : List Fact → Option Value
  | [] => none
  | .mx hi' x' y' r :: l => match (hi == hi') && geq x x' && geq y y' with
    | true => some r
    | false => mxF hi x y l
  | _ :: l => mxF hi x y l
section
variable {P : Program} {M : Mp} {σ : Nat → Value} {H : Tr Blk} {w : World}
theorem hasSeq_ok {t : TypeId} {x y : Value} {l : List Fact} (hl : ∀ f ∈ l, f.Holds P σ) (h : hasSeq t x y l = true) : (Fact.seq t x y).Holds P σ := by
  induction l with
  | nil => cases h
  | cons g l ih =>
    have ih := ih fun f hf => hl f (List.mem_cons_of_mem _ hf)
    have h0 := hl g List.mem_cons_self
    cases g with
    | seq t' x' y' =>
      simp only [hasSeq] at h
      split at h
      · rename_i hq
        simp only [Bool.and_eq_true] at hq
        rw [Nat.eq_of_beq_eq_true hq.1.1, geq_eq hq.1.2, geq_eq hq.2]; exact h0
      · exact ih h
    | _ => exact ih h
theorem mxF_ok {hi : Bool} {x y r : Value} {l : List Fact} (hl : ∀ f ∈ l, f.Holds P σ) (h : mxF hi x y l = some r) : (Fact.mx hi x y r).Holds P σ := by
  induction l with
  | nil => cases h
  | cons g l ih =>
    have ih := ih fun f hf => hl f (List.mem_cons_of_mem _ hf)
    have h0 := hl g List.mem_cons_self
    cases g with
    | mx hi' x' y' r' =>
      simp only [mxF] at h
      split at h
      · rename_i hq
        simp only [Bool.and_eq_true, beq_iff_eq] at hq
        cases h
        rw [hq.1.1, geq_eq hq.1.2, geq_eq hq.2]; exact h0
      · exact ih h
    | _ => exact ih h
theorem callF_ok {f : FuncId} {args : List Value} {y : Value} {l : List Fact} (hl : ∀ f ∈ l, f.Holds P σ) (h : callF f args l = some y) : (Fact.call f args y).Holds P σ := by
  induction l with
  | nil => cases h
  | cons g l ih =>
    have ih := ih fun f hf => hl f (List.mem_cons_of_mem _ hf)
    have h0 := hl g List.mem_cons_self
    cases g with
    | call f' args' y' =>
      simp only [callF] at h
      split at h
      · rename_i hq
        simp only [Bool.and_eq_true] at hq
        cases h
        rw [Nat.eq_of_beq_eq_true hq.1, geqs_eq hq.2]; exact h0
      · exact ih h
    | _ => exact ih h
theorem unF_ok {op : UnOp} {u y : Value} {l : List Fact} (hl : ∀ f ∈ l, f.Holds P σ) (h : unF op u l = some y) : (Fact.un op u y).Holds P σ := by
  induction l with
  | nil => cases h
  | cons g l ih =>
    have ih := ih fun f hf => hl f (List.mem_cons_of_mem _ hf)
    have h0 := hl g List.mem_cons_self
    cases g with
    | un op' u' y' =>
      simp only [unF] at h
      split at h
      · rename_i hq
        simp only [Bool.and_eq_true, decide_eq_true_eq] at hq
        cases h
        rw [hq.1, geq_eq hq.2]; exact h0
      · exact ih h
    | _ => exact ih h
theorem binF_ok {op : BinOp} {u v y : Value} {l : List Fact} (hl : ∀ f ∈ l, f.Holds P σ) (h : binF op u v l = some y) : (Fact.bin op u v y).Holds P σ := by
  induction l with
  | nil => cases h
  | cons f l ih =>
    have ih := ih fun f hf => hl f (List.mem_cons_of_mem _ hf)
    have h0 := hl f List.mem_cons_self
    cases f with
    | bin op' u' v' y' =>
      simp only [binF] at h
      split at h
      · rename_i hq
        simp only [Bool.and_eq_true, bopEq, decide_eq_true_eq] at hq
        cases h
        rw [hq.1.1, geq_eq hq.1.2, geq_eq hq.2]; exact h0
      · exact ih h
    | _ => exact ih h
theorem lenF_ok {t : TypeId} {u y : Value} {l : List Fact} (hl : ∀ f ∈ l, f.Holds P σ) (h : lenF t u l = some y) : (Fact.len t u y).Holds P σ := by
  induction l with
  | nil => cases h
  | cons f l ih =>
    have ih := ih fun f hf => hl f (List.mem_cons_of_mem _ hf)
    have h0 := hl f List.mem_cons_self
    cases f with
    | len t' u' y' =>
      simp only [lenF] at h
      split at h
      · rename_i hq
        simp only [Bool.and_eq_true] at hq
        cases h
        rw [Nat.eq_of_beq_eq_true hq.1, geq_eq hq.2]; exact h0
      · exact ih h
    | _ => exact ih h
theorem convF_ok {s d : TypeId} {u y : Value} {l : List Fact} (hl : ∀ f ∈ l, f.Holds P σ) (h : convF s d u l = some y) : (Fact.conv s d u y).Holds P σ := by
  induction l with
  | nil => cases h
  | cons f l ih =>
    have ih := ih fun f hf => hl f (List.mem_cons_of_mem _ hf)
    have h0 := hl f List.mem_cons_self
    cases f with
    | conv s' d' u' y' =>
      simp only [convF] at h
      split at h
      · rename_i hq
        simp only [Bool.and_eq_true] at hq
        cases h
        rw [Nat.eq_of_beq_eq_true hq.1.1, Nat.eq_of_beq_eq_true hq.1.2, geq_eq hq.2]; exact h0
      · exact ih h
    | _ => exact ih h
theorem inst_clean {x : Value} (h : clean x = true) : inst σ x = x := by
  unfold inst
  split
  · simp [clean] at h
  · rfl
theorem okv.vr {x : Value} (h : okv σ x) : VR M σ x (inst σ x) := by
  rcases h with ⟨i, rfl, h⟩ | h
  · exact .opq i h
  · rw [inst_clean h]; exact VR.of_clean _ h
theorem okv.eq {x u : Value} (h : okv σ x) (hr : VR M σ x u) : u = inst σ x := by
  rcases h with ⟨i, rfl, h⟩ | h
  · cases hr; rfl
  · rw [inst_clean h]; exact hr.eq_of_clean h
theorem seqF_ok {op : BinOp} {t : TypeId} {u v y u' v' : Value} {l : List Fact} (hl : ∀ f ∈ l, f.Holds P σ) (h : seqF op t u v l = some y) (hu : VR M σ u u') (hv : VR M σ v v') (tx tz : Operand) :
    clean y = true ∧ ((do eqGuard op t tx tz u' v'; binOp op t u' v' : Sem Value)).run P w = .ok y w := by
  unfold seqF at h
  split at h
  · rename_i x xs z zs
    split at h
    · rename_i hq
      obtain ⟨f1, f2, f3⟩ := hasSeq_ok hl hq
      cases hu with
      | agg hu => cases hu with
        | cons hx hxs => cases hv with
          | agg hv => cases hv with
            | cons hz hzs =>
              rw [f1.eq hx, f2.eq hz]
              split at h
              · cases h; exact ⟨rfl, (f3 _ _ tx tz w).1⟩
              · cases h; exact ⟨rfl, (f3 _ _ tx tz w).2⟩
              · cases h
    · cases h
  · cases h
end
end Go.Proofs.Ytdhdaknfmpfegaa.Ev
namespace Go.Proofs.Ytdhdaknfmpfegaa.Ev
open Go Go.RowKit
section
variable {tabI : Tab} {P : Program} {σ : Nat → Value}
/-- two whole numbers -/
theorem Fact.num {op : BinOp} {u v y : Value} {k : IntKind} {a b : Int} (hu : okv σ u) (hv : okv σ v) (hy : okv σ y) (h1 : inst σ u = .int k a) (h2 : inst σ v = .int k b) (h : intOp op k a b = some (inst σ y)) : (Fact.bin op u v y).Holds P σ :=
  ⟨hu, hv, hy, fun t x z w => by rw [h1, h2]; exact (intOp_run h t x z).1⟩
/-- an open number and a given one -/
theorem Fact.cmpC {op : BinOp} {i : Nat} {k : IntKind} {a b : Int} {r : Bool} (hi : σ i = .int k a) (h : intOp op k a b = some (.bool r)) : (Fact.bin op (.chan (some i)) (.int k b) (.bool r)).Holds P σ :=
  Fact.num (.inl ⟨i, rfl, by rw [hi]; rfl⟩) (.inr rfl) (.inr rfl) hi rfl h
/-- two open numbers -/
theorem Fact.cmpO {op : BinOp} {i j : Nat} {k : IntKind} {a b : Int} {r : Bool} (hi : σ i = .int k a) (hj : σ j = .int k b) (h : intOp op k a b = some (.bool r)) : (Fact.bin op (.chan (some i)) (.chan (some j)) (.bool r)).Holds P σ :=
  Fact.num (.inl ⟨i, rfl, by rw [hi]; rfl⟩) (.inl ⟨j, rfl, by rw [hj]; rfl⟩) (.inr rfl) hi hj h
/-- the length of an open string -/
theorem Fact.lenS {t : TypeId} {i j : Nat} {s : ByteArray} (hi : σ i = .string s) (hj : σ j = goInt s.size) (hu : P.underlying t = some .string) : (Fact.len t (.chan (some i)) (.chan (some j))).Holds P σ :=
  ⟨.inl ⟨i, rfl, by rw [hi]; rfl⟩, .inl ⟨j, rfl, by rw [hj]; rfl⟩, fun ty w => by simp [inst, hi, hj, Builtin.len_, run_underlying' hu]⟩
/-- an open number of another kind -/
theorem Fact.convC {s d : TypeId} {i j : Nat} {u v : Value} (hi : σ i = u) (hj : σ j = v) (h1 : u.oneCell' = true) (h2 : v.oneCell' = true) (h : ∀ w, (convert s d u).run P w = .ok v w) : (Fact.conv s d (.chan (some i)) (.chan (some j))).Holds P σ :=
  ⟨.inl ⟨i, rfl, by rw [hi]; exact h1⟩, .inl ⟨j, rfl, by rw [hj]; exact h2⟩, fun w => by simp only [inst, hi, hj]; exact h w⟩
end
end Go.Proofs.Ytdhdaknfmpfegaa.Ev
end
section
set_option linter.unusedVariables false
set_option linter.unusedSimpArgs false
set_option linter.unusedSectionVars false
namespace Go.Proofs.Ytdhdaknfmpfegaa.Ev
open Go Go.RowKit
variable [Tab]
/-! ### equal values -/
def kfEq : FloatKind → FloatKind → Bool
  | .f32, .f32 | .f64, .f64 => true
  | _, _ => false
def onEq : Option Nat → Option Nat → Bool
  | none, none => true
  | some a, some b => Nat.beq a b
  | _, _ => false
def oaEq : Option Addr → Option Addr → Bool
  | none, none => true
  | some a, some b => Nat.beq a.block b.block && Nat.beq a.off b.off && onEq a.spot b.spot
  | _, _ => false
def fkEq (k l : FloatKind) : Bool := match k, l with | .f32, .f32 => true | .f64, .f64 => true | _, _ => false
theorem fkEq_eq {k l : FloatKind} (h : fkEq k l = true) : k = l := by cases k <;> cases l <;> first | rfl | exact absurd h (by decide)
mutual
def veq : Value → Value → Bool
  | .bool a, .bool b => (match a, b with | true, true => true | false, false => true | _, _ => false)
  | .int k a, .int l b => kEq k l && iBeq a b
  | .float k a, .float l b => fkEq k l && Nat.beq a b
  | .complex k a b, .complex l c d => fkEq k l && Nat.beq a c && Nat.beq b d
  | .string a, .string b => decide (a.data.toList = b.data.toList)
  | .pointer a, .pointer b => oaEq a b
  | .slice a l c, .slice b m d => oaEq a b && Nat.beq l m && Nat.beq c d
  | .map a, .map b => onEq a b
  | .chan a, .chan b => onEq a b
  | .func (.func f) ⟨a⟩ ⟨b⟩, .func (.func g) ⟨c⟩ ⟨d⟩ => Nat.beq f g && veqs a c && veqs b d
  | .func (.yield f) ⟨a⟩ ⟨b⟩, .func (.yield g) ⟨c⟩ ⟨d⟩ => Nat.beq f g && veqs a c && veqs b d
  | .nilFunc, .nilFunc => true
  | .iface t a, .iface u b => Nat.beq t u && veq a b
  | .nilIface, .nilIface => true
  | .agg ⟨a⟩, .agg ⟨b⟩ => veqs a b
  | .tuple ⟨a⟩, .tuple ⟨b⟩ => veqs a b
  | _, _ => false
def veqs : List Value → List Value → Bool
  | [], [] => true
  | a :: l, b :: m => veq a b && veqs l m
  | _, _ => false
end
theorem onEq_eq {a b : Option Nat} (h : onEq a b = true) : a = b := by
  cases a <;> cases b <;> simp [onEq] at h
  · rfl
  · rw [h]
theorem oaEq_eq {a b : Option Addr} (h : oaEq a b = true) : a = b := by
  cases a <;> cases b <;> simp [oaEq] at h
  · rfl
  · rename_i x y
    cases x; cases y
    simp at h
    obtain ⟨⟨h1, h2⟩, h3⟩ := h
    rw [h1, h2, onEq_eq h3]
mutual
theorem veq_eq : ∀ {a b : Value}, veq a b = true → a = b
  | .bool a, b, h => by cases b <;> simp [veq] at h; rename_i b; cases a <;> cases b <;> simp at h ⊢
  | .int k a, b, h => by
    cases b <;> simp [veq] at h
    rename_i l b
    rw [kEq_eq h.1]
    have := h.2
    rw [iBeq_eq] at this
    rw [eq_of_beq this]
  | .float k a, b, h => by cases b <;> simp [veq] at h; rw [fkEq_eq h.1, h.2]
  | .complex k a c, b, h => by cases b <;> simp [veq] at h; rw [fkEq_eq h.1.1, h.1.2, h.2]
  | .string a, b, h => by
    cases b <;> simp [veq] at h
    rename_i b
    cases a; cases b; simp at h; rw [h]
  | .pointer a, b, h => by cases b <;> simp [veq] at h; rw [oaEq_eq h]
  | .slice a l c, b, h => by cases b <;> simp [veq] at h; rw [oaEq_eq h.1.1, h.1.2, h.2]
  | .map a, b, h => by cases b <;> simp [veq] at h; rw [onEq_eq h]
  | .chan a, b, h => by cases b <;> simp [veq] at h; rw [onEq_eq h]
  | .func (.func f) ⟨a⟩ ⟨b⟩, x, h => by
    cases x with
    | func g c d =>
      cases g with
      | func g =>
        cases c; cases d
        simp [veq] at h
        rw [h.1.1, veqs_eq h.1.2, veqs_eq h.2]
      | _ => simp [veq] at h
    | _ => simp [veq] at h
  | .func (.method _) _ _, b, h => by cases b <;> simp [veq] at h
  | .func (.methodOf _ _) _ _, b, h => by cases b <;> simp [veq] at h
  | .func (.via _ _ _ _) _ _, b, h => by cases b <;> simp [veq] at h
  | .func (.yield f) ⟨a⟩ ⟨b⟩, x, h => by
    cases x with
    | func g c d =>
      cases g with
      | yield g =>
        cases c; cases d
        simp [veq] at h
        rw [h.1.1, veqs_eq h.1.2, veqs_eq h.2]
      | _ => simp [veq] at h
    | _ => simp [veq] at h
  | .nilFunc, b, h => by cases b <;> simp [veq] at h; rfl
  | .iface t a, b, h => by cases b <;> simp [veq] at h; rw [h.1, veq_eq h.2]
  | .nilIface, b, h => by cases b <;> simp [veq] at h; rfl
  | .agg ⟨a⟩, x, h => by
    cases x with
    | agg c => cases c; simp [veq] at h; rw [veqs_eq h]
    | _ => simp [veq] at h
  | .tuple ⟨a⟩, x, h => by
    cases x with
    | tuple c => cases c; simp [veq] at h; rw [veqs_eq h]
    | _ => simp [veq] at h
theorem veqs_eq : ∀ {a b : List Value}, veqs a b = true → a = b
  | [], b, h => by cases b <;> simp [veqs] at h; rfl
  | x :: l, b, h => by
    cases b with
    | nil => simp [veqs] at h
    | cons y m => simp [veqs] at h; rw [veq_eq h.1, veqs_eq h.2]
end


/-! ### equal cells, blocks, heaps -/
def both (a b : Bool) : Bool := Bool.casesOn a false b
theorem both_eq {a b : Bool} (h : both a b = true) : a = true ∧ b = true := by cases a <;> cases b <;> first | exact ⟨rfl, rfl⟩ | cases h
def ceq (a b : Value) : Bool :=
  match a with
  | .int k x => (match b with | .int l y => both (kEq k l) (iBeq x y) | _ => false)
  | .pointer x => (match b with | .pointer y => oaEq x y | _ => false)
  | .slice x l c => (match b with | .slice y m d => both (oaEq x y) (both (Nat.beq l m) (Nat.beq c d)) | _ => false)
  | .string x => (match b with | .string y => bytesEq x.data.toList y.data.toList | _ => false)
  | a => veq a b
theorem ceq_eq {a b : Value} (h : ceq a b = true) : a = b := by
  cases a with
  | int k x =>
    cases b with
    | int l y =>
      obtain ⟨h1, h2⟩ := both_eq (a := kEq k l) (b := iBeq x y) h
      rw [iBeq_eq] at h2
      rw [kEq_eq h1, eq_of_beq h2]
    | _ => cases h
  | pointer x =>
    cases b with
    | pointer y => rw [oaEq_eq (a := x) (b := y) h]
    | _ => cases h
  | slice x l c =>
    cases b with
    | slice y m d =>
      obtain ⟨h1, h2⟩ := both_eq (a := oaEq x y) (b := both (Nat.beq l m) (Nat.beq c d)) h
      obtain ⟨h2, h3⟩ := both_eq h2
      rw [oaEq_eq h1, Nat.eq_of_beq_eq_true h2, Nat.eq_of_beq_eq_true h3]
    | _ => cases h
  | string x =>
    cases b with
    | string y =>
      have := bytesEq_eq (a := x.data.toList) (b := y.data.toList) h
      cases x; cases y
      simp only [Array.toList_inj] at this
      rw [this]
    | _ => cases h
  | _ => exact veq_eq h
noncomputable def ceqs (l : List Value) : List Value → Bool :=
  List.rec (motive := fun _ => List Value → Bool) (fun m => List.casesOn m true (fun _ _ => false)) (fun a _ ih m => List.casesOn m false (fun b m => both (ceq a b) (ih m))) l
theorem ceqs_eq : ∀ {a b : List Value}, ceqs a b = true → a = b
  | [], [], _ => rfl
  | [], _ :: _, h => by cases h
  | _ :: _, [], h => by cases h
  | x :: l, y :: m, h => by
    obtain ⟨h1, h2⟩ := both_eq (a := ceq x y) (b := ceqs l m) h
    rw [ceq_eq h1, ceqs_eq h2]
noncomputable def meqs (l : List MapEntry) : List MapEntry → Bool :=
  List.rec (motive := fun _ => List MapEntry → Bool) (fun m => List.casesOn m true (fun _ _ => false)) (fun a _ ih m => List.casesOn m false (fun b m => both (ceq a.key b.key) (both (ceq a.val b.val) (both (Nat.beq a.born b.born) (ih m))))) l
theorem meqs_eq : ∀ {a b : List MapEntry}, meqs a b = true → a = b
  | [], [], _ => rfl
  | [], _ :: _, h => by cases h
  | _ :: _, [], h => by cases h
  | x :: l, y :: m, h => by
    obtain ⟨h1, h2⟩ := both_eq (a := ceq x.key y.key) (b := both (ceq x.val y.val) (both (Nat.beq x.born y.born) (meqs l m))) h
    obtain ⟨h2, h3⟩ := both_eq h2
    obtain ⟨h3, h4⟩ := both_eq h3
    obtain ⟨xk, xv, xb⟩ := x
    obtain ⟨yk, yv, yb⟩ := y
    have e1 := ceq_eq h1
    have e2 := ceq_eq h2
    have e3 := Nat.eq_of_beq_eq_true h3
    simp only at e1 e2 e3
    rw [e1, e2, e3, meqs_eq h4]
/-- the first is dead, or both are the same -/
noncomputable def bles (a b : Blk) : Bool :=
  match a with
  | .dead => true
  | .cells t xs => (match b with | .cells u ys => both (Nat.beq t u) (ceqs xs ys) | _ => false)
  | .map es c => (match b with | .map fs d => both (Nat.beq c d) (meqs es fs) | _ => false)
  | .marks x => (match b with | .marks y => (match x, y with | true, true => true | false, false => true | _, _ => false) | _ => false)
  | _ => false
theorem bles_eq {a b : Blk} (h : bles a b = true) (hl : a.live = true) : a = b := by
  unfold bles at h
  split at h
  · cases hl
  · split at h
    · obtain ⟨h1, h2⟩ := both_eq h
      rw [Nat.eq_of_beq_eq_true h1, ceqs_eq h2]
    · cases h
  · split at h
    · obtain ⟨h1, h2⟩ := both_eq h
      rw [Nat.eq_of_beq_eq_true h1, meqs_eq h2]
    · cases h
  · split at h
    · split at h <;> first | rfl | cases h
    · cases h
  · cases h
/-- a trie that knows no more than another -/
noncomputable def tle (t : T4 Blk) : T4 Blk → Bool :=
  T4.rec (motive := fun _ => T4 Blk → Bool) (fun u => T4.casesOn u true (fun _ _ _ _ => false) (fun _ => false))
    (fun _ _ _ _ ia ib ic id u => T4.casesOn u false (fun a b c d => both (ia a) (both (ib b) (both (ic c) (id d)))) (fun _ => false))
    (fun v u => T4.casesOn u false (fun _ _ _ _ => false) (fun v' => bles v v')) t
/-- what is known on the left is so on the right, and what is free on the left is so on the right -/
def Known (a b : Option Blk) : Prop := match a with
  | none => b = none
  | some x => b ≠ none ∧ (x.live = true → b = some x)
theorem Known.some {x y : Blk} (h : bles x y = true) : Known (some x) (some y) := ⟨by simp, fun hl => by rw [bles_eq h hl]⟩
theorem tle_spec : ∀ {t u : T4 Blk}, tle t u = true → Known t.v u.v ∧ ∀ k, tle (t.step k) (u.step k) = true
  | .leaf, .leaf, _ => ⟨rfl, fun _ => rfl⟩
  | .leaf, .node .., h => by cases h
  | .leaf, .val _, h => by cases h
  | .node .., .leaf, h => by cases h
  | .node .., .val _, h => by cases h
  | .val _, .leaf, h => by cases h
  | .val _, .node .., h => by cases h
  | .val x, .val y, h => ⟨Known.some h, fun _ => rfl⟩
  | .node a b c d, .node a' b' c' d', h => by
    obtain ⟨h1, h2⟩ := both_eq (a := tle a a') (b := both (tle b b') (both (tle c c') (tle d d'))) h
    obtain ⟨h2, h3⟩ := both_eq h2
    obtain ⟨h3, h4⟩ := both_eq h3
    exact ⟨rfl, fun k => by cases k <;> assumption⟩
noncomputable def hle (G H : Tr Blk) : Bool := Tr.casesOn G fun s m l => Tr.casesOn H fun s' m' l' => both (tle s s') (both (tle m m') (tle l l'))
theorem hle_spec {G H : Tr Blk} (h : hle G H = true) (k : Key) : Known (G.get k) (H.get k) := by
  obtain ⟨s, m, l⟩ := G
  obtain ⟨s', m', l'⟩ := H
  obtain ⟨h1, h2⟩ := both_eq (a := tle s s') (b := both (tle m m') (tle l l')) h
  obtain ⟨h2, h3⟩ := both_eq h2
  cases k with
  | short a b c d => exact (tle_spec ((tle_spec ((tle_spec ((tle_spec ((tle_spec h1).2 a)).2 b)).2 c)).2 d)).1
  | mid a b c d e f => exact (tle_spec ((tle_spec ((tle_spec ((tle_spec ((tle_spec ((tle_spec ((tle_spec h2).2 a)).2 b)).2 c)).2 d)).2 e)).2 f)).1
  | long a b c d e f g h => exact (tle_spec ((tle_spec ((tle_spec ((tle_spec ((tle_spec ((tle_spec ((tle_spec ((tle_spec ((tle_spec h3).2 a)).2 b)).2 c)).2 d)).2 e)).2 f)).2 g)).2 h)).1
section
variable {M : Mp} {σ : Nat → Value} {w : World}
/-- a world that bears a heap bears one that knows less -/
theorem HR.less {G H : Tr Blk} (h : HR M σ H.get w) (hle' : hle G H = true) : HR M σ G.get w ∧ Stp M H.get w M G.get w := by
  have sp := hle_spec hle'
  have up : ∀ {k b}, G.get k = some b → b.live = true → H.get k = some b := fun {k b} g l => by
    have := sp k; rw [g] at this; exact this.2 l
  have gr : ∀ {k b}, H.get k = some b → ∃ b', G.get k = some b' := fun {k b} g => by
    have := sp k
    cases hg : G.get k with
    | some b' => exact ⟨b', rfl⟩
    | none => rw [hg] at this; exact absurd g (by rw [show H.get k = none from this]; simp)
  refine ⟨⟨fun k b g l => h.blk k b (up g l) l, fun k k' b b' p p' g l g' l' m m' e => h.inj k k' b b' p p' (up g l) l (up g' l') l' m m' e, fun k p m => ?_, fun x hx => ⟨(h.gl x hx).1, fun k b p g l m => (h.gl x hx).2 k b p (up g l) l m⟩⟩,
    ⟨Le.refl _, rfl, rfl, rfl, Nat.le_refl _, fun _ _ _ => rfl, fun k hk => ?_, fun _ _ m => .inl m, fun k b g => gr g, fun k b p g l m => .inr ⟨k, b, p, up g l, l, m, rfl⟩⟩⟩
  · obtain ⟨b, hb⟩ := h.dom k p m
    exact gr hb
  · obtain ⟨b', hb'⟩ := gr hk
    cases hl : b'.live with
    | true => have := up hb' hl; rw [hk] at this; cases this; cases hl
    | false => cases b' <;> first | (cases hl; done) | exact hb'
/-- a call of which it is known what it comes to, with the heaps -/
noncomputable def stF (f : FuncId) (args : List Value) (H : Tr Blk) (nx : Nat) : List Fact → Option (Value × Tr Blk × Nat)
  | [] => none
  | .st f' args' G nx0 v H' nx' :: l => match Nat.beq nx nx0 with
    | true => match both (Nat.beq f f') (both (ceqs args' args) (hle G H)) with
      | true => some (v, H', nx')
      | false => stF f args H nx l
    | false => stF f args H nx l
  | _ :: l => stF f args H nx l
theorem stF_ok {P : Program} {f : FuncId} {args : List Value} {H : Tr Blk} {nx : Nat} {r : Value × Tr Blk × Nat} {l : List Fact} (hl : ∀ f ∈ l, f.Holds P σ) (h : stF f args H nx l = some r) :
    ∃ G, hle G H = true ∧ (Fact.st f args G nx r.1 r.2.1 r.2.2).Holds P σ := by
  induction l with
  | nil => cases h
  | cons g l ih =>
    have ih := ih fun f hf => hl f (List.mem_cons_of_mem _ hf)
    have h0 := hl g List.mem_cons_self
    cases g with
    | st f' args' G nx0 v H' nx' =>
      simp only [stF] at h
      split at h
      · rename_i hn
        split at h
        · rename_i hq
          obtain ⟨h1, h2⟩ := both_eq hq
          obtain ⟨h2, h3⟩ := both_eq h2
          cases h
          refine ⟨G, h3, ?_⟩
          rw [Nat.eq_of_beq_eq_true h1, Nat.eq_of_beq_eq_true hn, ← ceqs_eq h2]
          exact h0
        · exact ih h
      · exact ih h
    | _ => exact ih h
theorem stF_run {P : Program} [TabOK P σ] {f : FuncId} {args vs : List Value} {H H' : Tr Blk} {nx nx' : Nat} {v : Value} (hy : stF f args H nx Tab.table = some (v, H', nx')) (hH : HR M σ H.get w) (hvs : VRs M σ args vs) :
    Calls P f vs.toArray w fun e w' => ∃ u M', e = .returned u ∧ VR M' σ v u ∧ HR M' σ H'.get w' ∧ Stp M H.get w M' H'.get w' := by
  obtain ⟨G, h1, h2⟩ := stF_ok (P := P) (σ := σ) TabOK.ok hy
  obtain ⟨h3, h4⟩ := hH.less h1
  refine (h2 M w vs h3 hvs).mono ?_
  rintro e w' ⟨u, M', rfl, hv, hr, hs⟩
  exact ⟨u, M', rfl, hv, hr, h4.trans hs⟩
end
end Go.Proofs.Ytdhdaknfmpfegaa.Ev
end
