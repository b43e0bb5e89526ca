/-
  A checked evaluator, part X: facts about whole numbers, and calls that are known.
-/
import Derived.Test.YtdhdaknfmpfegaaEvW
set_option linter.unusedVariables false
set_option linter.unusedSimpArgs false
namespace Go.Proofs.Ytdhdaknfmpfegaa.Ev
open Go Go.RowKit
theorem Fact.res {tabI : Tab} {P : Program} {σ : Nat → Value} {op : BinOp} {u v y : Value} {k k' : IntKind} {a b r : Int} (hu : okv σ u) (hv : okv σ v) (hy : okv σ y) (h1 : inst σ u = .int k a) (h2 : inst σ v = .int k' b) (h3 : inst σ y = .int k r) (h : resOp op k k' a b = some r) : (Fact.bin op u v y).Holds P σ :=
  ⟨hu, hv, hy, fun t x z w => by rw [h1, h2, h3]; exact resOp_run h t x z w⟩
theorem Fact.cmp {tabI : Tab} {P : Program} {σ : Nat → Value} {op : BinOp} {u v : Value} {k : IntKind} {a b : Int} {r : Bool} (hu : okv σ u) (hv : okv σ v) (h1 : inst σ u = .int k a) (h2 : inst σ v = .int k b) (h : intOp op k a b = some (.bool r)) : (Fact.bin op u v (.bool r)).Holds P σ :=
  Fact.num hu hv (.inr rfl) h1 h2 h
theorem Fact.convI {tabI : Tab} {P : Program} {σ : Nat → Value} {s d : TypeId} {u y : Value} {k l : IntKind} {a r : Int} (hu : okv σ u) (hy : okv σ y) (h1 : inst σ u = .int k a) (h3 : inst σ y = .int l r) (hs : P.underlying s = some (.int k)) (hd : P.underlying d = some (.int l)) (h : l.wrap a = r) : (Fact.conv s d u y).Holds P σ :=
  ⟨hu, hy, fun w => by rw [h1, h3]; subst h; simp [convert, run_underlying' hs, run_underlying' hd, Conv.intToInt]⟩
theorem Fact.known {T : List Fact} {G : List (Nat × List Value)} {P : Program} {σ : Nat → Value} {L n : Nat} {f : FuncId} {b : Bool} (h : evalsTo [] G P L n f [] (.bool b) = true) (hm : P.follows .mixedOrders = true) : @Fact.Holds ⟨T, G⟩ P σ (.call f [] (.bool b)) :=
  ⟨(fun x hx => by cases hx), _, .bool b, fun w hG => eval_case h hm σ w hG .nil (@hnil P σ ⟨[], G⟩)⟩
theorem Fact.knownX {T E : List Fact} {G : List (Nat × List Value)} {P : Program} {σ : Nat → Value} {L n : Nat} {f : FuncId} {b : Bool} (h : evalsTo E G P L n f [] (.bool b) = true) (hm : P.follows .mixedOrders = true) (hE : ∀ f ∈ E, @Fact.Holds ⟨E, G⟩ P σ f) : @Fact.Holds ⟨T, G⟩ P σ (.call f [] (.bool b)) :=
  ⟨(fun x hx => by cases hx), _, .bool b, fun w hG => eval_case h hm σ w hG .nil hE⟩
/-- a call of plain values that is known by a contract -/
theorem Fact.calls {T : List Fact} {G : List (Nat × List Value)} {P : Program} {σ : Nat → Value} {f : FuncId} {args : List Value} {y u : Value} (h1 : ∀ x ∈ args, okv σ x) (h2 : VR (fun _ => none) σ y u)
    (h : ∀ w : World, (∀ x ∈ G, GR σ x w) → Calls P f (args.map (inst σ)).toArray w fun e w' => e = .returned u ∧ Below w.heap.size w w') : @Fact.Holds ⟨T, G⟩ P σ (.call f args y) := ⟨h1, u, h2, h⟩
theorem oknil {σ : Nat → Value} : ∀ x ∈ ([] : List Value), okv σ x := fun x hx => by cases hx
theorem okcons {σ : Nat → Value} {a : Value} {l : List Value} (h : okv σ a) (k : ∀ x ∈ l, okv σ x) : ∀ x ∈ a :: l, okv σ x := fun x hx => by
  rcases List.mem_cons.1 hx with rfl | hx
  · exact h
  · exact k x hx
def isSliceT (P : Program) (t : TypeId) : Bool := match P.underlying t with | some (.slice _) => true | _ => false
/-- the length of an open slice -/
theorem Fact.lenL {tabI : Tab} {P : Program} {σ : Nat → Value} {t : TypeId} {i j : Nat} {a : Option Addr} {n c : Nat} (hi : σ i = .slice a n c) (hj : σ j = goInt n) (hu : isSliceT P t = true) : (Fact.len t (.chan (some i)) (.chan (some j))).Holds P σ := by
  unfold isSliceT at hu
  split at hu
  · rename_i e hu'
    exact ⟨.inl ⟨i, rfl, by rw [hi]; rfl⟩, .inl ⟨j, rfl, by rw [hj]; rfl⟩, fun ty w => by simp [inst, hi, hj, Builtin.len_, run_underlying' hu']⟩
  · cases hu
def seqOk (P : Program) (t : TypeId) : Bool :=
  match P.underlying t with
  | some (.struct fs) => !P.stoodInHeld t && !P.eqGuardType P.depth t && (match fs.toList with
    | f :: _ => decide (f.name ≠ "_") && Nat.beq f.offset 0 && (match P.underlying f.type with | some (.int _) => true | _ => false)
    | [] => false)
  | _ => false
/-- two structs whose first numbers differ -/
theorem Fact.seqI {tabI : Tab} {P : Program} {σ : Nat → Value} {t : TypeId} {x y : Value} {k : IntKind} {a b : Int} (hx : okv σ x) (hy : okv σ y) (h1 : inst σ x = .int k a) (h2 : inst σ y = .int k b) (hok : seqOk P t = true) (h : a ≠ b) : (Fact.seq t x y).Holds P σ := by
  unfold seqOk at hok
  split at hok
  · rename_i fs hu
    have hF : P.fieldsOf t = fs := by simp [Program.fieldsOf, hu]
    have hu' : P.underlying t = some (.struct (P.fieldsOf t)) := by rw [hF]; exact hu
    simp only [Bool.and_eq_true, Bool.not_eq_true'] at hok
    obtain ⟨⟨hs, hg⟩, hf⟩ := hok
    split at hf
    · rename_i f fs' hfs
      simp only [Bool.and_eq_true, decide_eq_true_eq] at hf
      obtain ⟨⟨hn, ho⟩, hk⟩ := hf
      have ho := Nat.eq_of_beq_eq_true ho
      split at hk
      · rename_i k' hk'
        have hpart : ∀ (v : Value) (us : List Value) (w : World), (part f.type ⟨v :: us⟩ f.offset).run P w = .ok v w := by
          intro v us w
          rw [ho]
          simp [part, isAgg, run_underlying' hk']
        have hab : (a == b) = false := by simpa using h
        have key : ∀ (us vs : List Value) (w : World), (Op.equalIn 10000 t (.agg ⟨.int k a :: us⟩) (.agg ⟨.int k b :: vs⟩)).run P w = .ok false w := by
          intro us vs w
          rw [run_equalIn_agg w 9999 t _ _ hu' hs, hF, hfs]
          simp only [Op.eqFields, hn, ne_eq, not_false_eq_true, if_true, Sem.run_bind, hpart, Result.andThen_ok, run_equalIn_int w 9998 f.type k k' a b hk', hab, Bool.not_false, Sem.run_pure]
        refine ⟨hx, hy, fun us vs tx tz w => ?_⟩
        rw [h1, h2]
        constructor
        · rw [Sem.run_bind, run_eqGuard_agg w .eql t tx tz _ _ hg, Result.andThen_ok, run_eql_struct, key, Result.andThen_ok]
        · rw [Sem.run_bind, run_eqGuard_agg w .neq t tx tz _ _ hg, Result.andThen_ok, run_neq_struct, key, Result.andThen_ok]; rfl
      · cases hk
    · cases hf
  · cases hok
/-- the larger, the smaller of two numbers -/
theorem Fact.mxI {tabI : Tab} {P : Program} {σ : Nat → Value} {hi : Bool} {x y r : Value} {k k' : IntKind} {a b c : Int} (hx : okv σ x) (hy : okv σ y) (hr : okv σ r) (h1 : inst σ x = .int k a) (h2 : inst σ y = .int k' b) (h3 : inst σ r = .int k c)
    (h : (if hi = true then (if b > a then b else a) else (if b < a then b else a)) = c) : (Fact.mx hi x y r).Holds P σ := by
  refine ⟨hx, hy, hr, fun ts ty w => ?_⟩
  rw [h1, h2, h3]
  subst h
  cases hi
  · simp [Builtin.min_, Builtin.min2]
  · simp [Builtin.max_, Builtin.max2]
theorem res_add {k : IntKind} {a b : Int} (h : k.wrap (a + b) = a + b) : resOp .add k k a b = some (a + b) := by simp [resOp, h]
theorem res_sub {k : IntKind} {a b : Int} (h : k.wrap (a - b) = a - b) : resOp .sub k k a b = some (a - b) := by simp [resOp, h]
theorem res_mul {k : IntKind} {a b : Int} (h : k.wrap (a * b) = a * b) : resOp .mul k k a b = some (a * b) := by simp [resOp, h]
theorem res_quo {k : IntKind} {a b : Int} (ha : 0 ≤ a) (hb : 0 < b) (h : k.wrap (a / b) = a / b) : resOp .quo k k a b = some (a / b) := by
  have h1 : b ≠ 0 := by omega
  simp [resOp, h1, Int.tdiv_eq_ediv_of_nonneg ha, h]
theorem res_rem {k : IntKind} {a b : Int} (ha : 0 ≤ a) (hb : 0 < b) : resOp .rem k k a b = some (a % b) := by
  have h1 : b ≠ 0 := by omega
  simp [resOp, h1, Int.tmod_eq_emod_of_nonneg ha]
theorem res_shr {k k' : IntKind} {a b r : Int} {n : Nat} (hb : b = n) (hn : n ≤ k.bits) (hr : a / (2 ^ n : Int) = r) : resOp .shr k k' a b = some r := by
  subst hb; subst hr
  have h1 : ¬ ((n : Int) < 0) := by omega
  have h2 : min (n : Int).toNat k.bits = n := by simp; omega
  simp only [resOp, h1, if_false, h2]
  have h3 : (0 : Int) ≤ 2 ^ n := by exact_mod_cast Nat.zero_le (2 ^ n)
  rw [Int.fdiv_eq_ediv_of_nonneg _ h3]
theorem wrap_u8 (n : Int) : IntKind.u8.wrap n = n % 256 := by simp [IntKind.wrap, IntKind.bits, IntKind.signed]
theorem wrap_u32 (n : Int) : IntKind.u32.wrap n = n % 4294967296 := by simp [IntKind.wrap, IntKind.bits, IntKind.signed]
theorem wrap_u64 (n : Int) : IntKind.u64.wrap n = n % 18446744073709551616 := by simp [IntKind.wrap, IntKind.bits, IntKind.signed]
theorem wf_u64 {a : Int} (h : (Lit.int .u64 a).wf = true) : 0 ≤ a ∧ a ≤ 18446744073709551615 := by
  have e1 : IntKind.u64.min = 0 := by decide
  have e2 : IntKind.u64.max = 18446744073709551615 := by decide
  rw [Lit.wf, Bool.and_eq_true, decide_eq_true_eq, decide_eq_true_eq, e1, e2] at h
  exact h
/-! ### functions without a body -/
section
variable {P : Program} {σ : Nat → Value} {tabI : Tab}
theorem callExt {f : FuncId} {g : Array Value → Sem Value} (h : (P.funcs[f]?).map (fun fn => (fn.name == "runtime.NumGoroutine", fn.body.isNone, (Extern.findNext fn).isNone, Extern.find fn)) = some (false, true, true, some g)) (args : Array Value) (w : World) :
    (callFunc f args).run P w = ((do pure (.value (← g args)) : Sem Next)).run P w := by
  obtain ⟨fn, hf, hh⟩ := Option.map_eq_some_iff.1 h
  simp only [Prod.mk.injEq] at hh
  obtain ⟨h1, h2, h3, h4⟩ := hh
  have h3' : Extern.findNext fn = none := by simpa using h3
  have h1' : fn.name ≠ "runtime.NumGoroutine" := by simpa using h1
  have h2' : fn.body = none := by simpa using h2
  simp [callFunc, hf, h1', h2', h3', h4]
theorem Fact.sameI {f : FuncId} (h : (P.funcs[f]?).map (fun fn => (fn.name == "runtime.NumGoroutine", fn.body.isNone, (Extern.findNext fn).isNone, Extern.find fn)) = some (false, true, true, some Extern.AbiNoEscape.same)) : (Fact.same f).Holds P σ := fun x w => by
  rw [callExt h, Sem.run_bind, Lib.run_noEscape]
  simp
theorem Fact.extI {f : FuncId} {g : Array Value → Sem Value} (h : (P.funcs[f]?).map (fun fn => (fn.name == "runtime.NumGoroutine", fn.body.isNone, (Extern.findNext fn).isNone, Extern.find fn)) = some (false, true, true, some g)) : (Fact.ext f g).Holds P σ := fun args w => callExt h args w
theorem Fact.mkNZI {f : FuncId} {e : TypeId} (ps : Array TypeId) (t : TypeId) (ht : P.underlying t = some (.slice e)) (h : (P.funcs[f]?).map (fun fn => (fn.name == "runtime.NumGoroutine", fn.body.isNone, (Extern.findNext fn).isNone, Extern.find fn)) = some (false, true, true, some (Extern.BytealgMakeNoZero.makeNoZero ps #[t]))) : (Fact.mkNZ f e).Holds P σ :=
  ⟨ps, t, ht, fun args w => callExt h args w⟩
theorem Fact.bldI {t : TypeId} : (Fact.bld t).Holds P σ := trivial
end
end Go.Proofs.Ytdhdaknfmpfegaa.Ev
