/-
  A checked evaluator, part X: facts about whole numbers, and calls that are known.
-/
import Derived.Test.YtahihfhfkjiimaaDoorEvW
set_option linter.unusedVariables false
set_option linter.unusedSimpArgs false
namespace Go.Proofs.YtahihfhfkjiimaaDoor.Ev
open Go Go.RowKit
/-- what an operation on two whole numbers comes to -/
def resOp (op : BinOp) (k k' : IntKind) (a b : Int) : Option Int :=
  match op with
  | .shl => if b < 0 then none else some (k.wrap (a * 2 ^ (min b.toNat k.bits)))
  | .shr => if b < 0 then none else some (a.fdiv (2 ^ (min b.toNat k.bits)))
  | .add => if k = k' then some (k.wrap (a + b)) else none
  | .sub => if k = k' then some (k.wrap (a - b)) else none
  | .mul => if k = k' then some (k.wrap (a * b)) else none
  | .quo => if k = k' ∧ b ≠ 0 then some (k.wrap (a.tdiv b)) else none
  | .rem => if k = k' ∧ b ≠ 0 then some (a.tmod b) else none
  | .and => if k = k' then some (k.wrap (BitVec.ofInt k.bits a &&& BitVec.ofInt k.bits b).toNat) else none
  | .or => if k = k' then some (k.wrap (BitVec.ofInt k.bits a ||| BitVec.ofInt k.bits b).toNat) else none
  | .xor => if k = k' then some (k.wrap (BitVec.ofInt k.bits a ^^^ BitVec.ofInt k.bits b).toNat) else none
  | .andNot => if k = k' then some (k.wrap (BitVec.ofInt k.bits a &&& ~~~BitVec.ofInt k.bits b).toNat) else none
  | _ => none
theorem resOp_run {P : Program} {op : BinOp} {k k' : IntKind} {a b r : Int} (h : resOp op k k' a b = some r) (t : TypeId) (x z : Operand) (w : World) :
    ((do eqGuard op t x z (.int k a) (.int k' b); binOp op t (.int k a) (.int k' b) : Sem Value)).run P w = .ok (.int k r) w := by
  unfold resOp at h
  cases op <;> simp only at h <;> (try (cases h; done)) <;> split at h <;> (try (cases h; done)) <;> rename_i hk <;> cases h
  all_goals first
    | (subst hk; simp [eqGuard, binOp, Op.intArith, Op.intBits])
    | (obtain ⟨rfl, hb⟩ := hk; simp [eqGuard, binOp, Op.intDiv, hb])
    | (simp [eqGuard, binOp, Op.shift, hk])
theorem Fact.res {tabI : Tab} {P : Program} {σ : Nat → Value} {op : BinOp} {u v y : Value} {k k' : IntKind} {a b r : Int} (hu : okv σ u) (hv : okv σ v) (hy : okv σ y) (h1 : inst σ u = .int k a) (h2 : inst σ v = .int k' b) (h3 : inst σ y = .int k r) (h : resOp op k k' a b = some r) : (Fact.bin op u v y).Holds P σ :=
  ⟨hu, hv, hy, fun t x z w => by rw [h1, h2, h3]; exact resOp_run h t x z w⟩
theorem Fact.cmp {tabI : Tab} {P : Program} {σ : Nat → Value} {op : BinOp} {u v : Value} {k : IntKind} {a b : Int} {r : Bool} (hu : okv σ u) (hv : okv σ v) (h1 : inst σ u = .int k a) (h2 : inst σ v = .int k b) (h : intOp op k a b = some (.bool r)) : (Fact.bin op u v (.bool r)).Holds P σ :=
  Fact.num hu hv (.inr rfl) h1 h2 h
theorem Fact.convI {tabI : Tab} {P : Program} {σ : Nat → Value} {s d : TypeId} {u y : Value} {k l : IntKind} {a r : Int} (hu : okv σ u) (hy : okv σ y) (h1 : inst σ u = .int k a) (h3 : inst σ y = .int l r) (hs : P.underlying s = some (.int k)) (hd : P.underlying d = some (.int l)) (h : l.wrap a = r) : (Fact.conv s d u y).Holds P σ :=
  ⟨hu, hy, fun w => by rw [h1, h3]; subst h; simp [convert, run_underlying' hs, run_underlying' hd, Conv.intToInt]⟩
theorem Fact.known {T : List Fact} {G : List (Nat × List Value)} {P : Program} {σ : Nat → Value} {L n : Nat} {f : FuncId} {b : Bool} (h : evalsTo [] G P L n f [] (.bool b) = true) (hm : P.follows .mixedOrders = true) : @Fact.Holds ⟨T, G⟩ P σ (.call f [] (.bool b)) :=
  ⟨(fun x hx => by cases hx), _, .bool b, fun w hG => eval_case h hm σ w hG .nil (@hnil P σ ⟨[], G⟩)⟩
/-- a call of plain values that is known by a contract -/
theorem Fact.calls {T : List Fact} {G : List (Nat × List Value)} {P : Program} {σ : Nat → Value} {f : FuncId} {args : List Value} {y u : Value} (h1 : ∀ x ∈ args, okv σ x) (h2 : VR (fun _ => none) σ y u)
    (h : ∀ w : World, (∀ x ∈ G, GR σ x w) → Calls P f (args.map (inst σ)).toArray w fun e w' => e = .returned u ∧ Below w.heap.size w w') : @Fact.Holds ⟨T, G⟩ P σ (.call f args y) := ⟨h1, u, h2, h⟩
theorem oknil {σ : Nat → Value} : ∀ x ∈ ([] : List Value), okv σ x := fun x hx => by cases hx
theorem okcons {σ : Nat → Value} {a : Value} {l : List Value} (h : okv σ a) (k : ∀ x ∈ l, okv σ x) : ∀ x ∈ a :: l, okv σ x := fun x hx => by
  rcases List.mem_cons.1 hx with rfl | hx
  · exact h
  · exact k x hx
/-- the length of an open slice -/
theorem Fact.lenL {tabI : Tab} {P : Program} {σ : Nat → Value} {t e : TypeId} {i j : Nat} {a : Option Addr} {n c : Nat} (hi : σ i = .slice a n c) (hj : σ j = goInt n) (hu : P.underlying t = some (.slice e)) : (Fact.len t (.chan (some i)) (.chan (some j))).Holds P σ :=
  ⟨.inl ⟨i, rfl, by rw [hi]; rfl⟩, .inl ⟨j, rfl, by rw [hj]; rfl⟩, fun ty w => by simp [inst, hi, hj, Builtin.len_, run_underlying' hu]⟩
theorem res_add {k : IntKind} {a b : Int} (h : k.wrap (a + b) = a + b) : resOp .add k k a b = some (a + b) := by simp [resOp, h]
theorem res_sub {k : IntKind} {a b : Int} (h : k.wrap (a - b) = a - b) : resOp .sub k k a b = some (a - b) := by simp [resOp, h]
theorem res_mul {k : IntKind} {a b : Int} (h : k.wrap (a * b) = a * b) : resOp .mul k k a b = some (a * b) := by simp [resOp, h]
theorem res_quo {k : IntKind} {a b : Int} (ha : 0 ≤ a) (hb : 0 < b) (h : k.wrap (a / b) = a / b) : resOp .quo k k a b = some (a / b) := by
  have h1 : b ≠ 0 := by omega
  simp [resOp, h1, Int.tdiv_eq_ediv_of_nonneg ha, h]
theorem res_rem {k : IntKind} {a b : Int} (ha : 0 ≤ a) (hb : 0 < b) : resOp .rem k k a b = some (a % b) := by
  have h1 : b ≠ 0 := by omega
  simp [resOp, h1, Int.tmod_eq_emod_of_nonneg ha]
theorem res_shr {k k' : IntKind} {a b r : Int} {n : Nat} (hb : b = n) (hn : n ≤ k.bits) (hr : a / (2 ^ n : Int) = r) : resOp .shr k k' a b = some r := by
  subst hb; subst hr
  have h1 : ¬ ((n : Int) < 0) := by omega
  have h2 : min (n : Int).toNat k.bits = n := by simp; omega
  simp only [resOp, h1, if_false, h2]
  have h3 : (0 : Int) ≤ 2 ^ n := by exact_mod_cast Nat.zero_le (2 ^ n)
  rw [Int.fdiv_eq_ediv_of_nonneg _ h3]
theorem wrap_u8 (n : Int) : IntKind.u8.wrap n = n % 256 := by simp [IntKind.wrap, IntKind.bits, IntKind.signed]
theorem wrap_u32 (n : Int) : IntKind.u32.wrap n = n % 4294967296 := by simp [IntKind.wrap, IntKind.bits, IntKind.signed]
theorem wrap_u64 (n : Int) : IntKind.u64.wrap n = n % 18446744073709551616 := by simp [IntKind.wrap, IntKind.bits, IntKind.signed]
theorem wf_u64 {a : Int} (h : (Lit.int .u64 a).wf = true) : 0 ≤ a ∧ a ≤ 18446744073709551615 := by
  have e1 : IntKind.u64.min = 0 := by decide
  have e2 : IntKind.u64.max = 18446744073709551615 := by decide
  rw [Lit.wf, Bool.and_eq_true, decide_eq_true_eq, decide_eq_true_eq, e1, e2] at h
  exact h
end Go.Proofs.YtahihfhfkjiimaaDoor.Ev
