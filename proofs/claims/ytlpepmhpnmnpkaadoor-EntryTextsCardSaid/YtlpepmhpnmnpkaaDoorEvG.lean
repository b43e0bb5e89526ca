/-
  A checked evaluator, part G: comparisons, arithmetic, calls; the operation as a whole.
-/
import Derived.Test.YtlpepmhpnmnpkaaDoorEvF
import Derived.Lib.Builder
set_option linter.unusedVariables false
set_option linter.unusedSectionVars false
set_option linter.unusedSimpArgs false
namespace Go.Proofs.YtlpepmhpnmnpkaaDoor.Ev
open Go Go.RowKit
variable [Tab]

section
variable {P : Program} {M : Mp} {σ : Nat → Value} {H : Tr Blk} {w : World}

/-! ### arithmetic -/
def inK (k : IntKind) (n : Int) : Bool :=
  match k with
  | .i64 => match n with
    | .ofNat m => Nat.ble m 9223372036854775807
    | .negSucc m => Nat.ble m 9223372036854775807
  | .u64 => match n with
    | .ofNat m => Nat.ble m 18446744073709551615
    | .negSucc _ => false
  | .u8 => match n with
    | .ofNat m => Nat.ble m 255
    | .negSucc _ => false
  | .u32 => match n with
    | .ofNat m => Nat.ble m 4294967295
    | .negSucc _ => false
  | _ => false
omit [Tab] in
theorem inK_wrap {k : IntKind} {n : Int} (h : inK k n = true) : k.wrap n = n := by
  cases k <;> simp only [inK, Bool.false_eq_true] at h
  all_goals (split at h; rename_i m; first | (have := Nat.le_of_ble_eq_true h; first | exact IntWalk.i64_in _ (by simp; omega) | exact IntWalk.u64_in _ (by simp; omega) | exact IntWalk.u8_in _ (by simp; omega) | exact IntWalk.u32_in _ (by simp; omega)) | skip)
  all_goals first | (cases h; done) | (have := Nat.le_of_ble_eq_true h; exact IntWalk.i64_in _ (by omega))
def kEq : IntKind → IntKind → Bool
  | .i8, .i8 | .i16, .i16 | .i32, .i32 | .i64, .i64 | .u8, .u8 | .u16, .u16 | .u32, .u32 | .u64, .u64 => true
  | _, _ => false
omit [Tab] in
theorem kEq_eq {a b : IntKind} (h : kEq a b = true) : a = b := by cases a <;> cases b <;> first | rfl | (simp [kEq] at h)
def iBeq : Int → Int → Bool
  | .ofNat a, .ofNat b => Nat.beq a b
  | .negSucc a, .negSucc b => Nat.beq a b
  | _, _ => false
def iBlt : Int → Int → Bool
  | .ofNat a, .ofNat b => Nat.blt a b
  | .negSucc a, .negSucc b => Nat.blt b a
  | .negSucc _, .ofNat _ => true
  | .ofNat _, .negSucc _ => false
omit [Tab] in
theorem iBeq_eq (a b : Int) : iBeq a b = (a == b) := by
  rw [Bool.eq_iff_iff]
  cases a <;> cases b <;> simp [iBeq] <;> omega
omit [Tab] in
theorem iBlt_eq (a b : Int) : iBlt a b = decide (a < b) := by
  rw [Bool.eq_iff_iff]
  cases a <;> cases b <;> simp [iBlt, Nat.blt_eq] <;> omega
omit [Tab] in
theorem not_blt (a b : Int) : (!iBlt b a) = decide (a ≤ b) := by rw [iBlt_eq, Bool.eq_iff_iff]; simp
/-- integers, without the model's monad -/
def intOp (op : BinOp) (k : IntKind) (a b : Int) : Option Value :=
  match op with
  | .add => forceI (a + b) fun r => match inK k r with | true => some (.int k r) | false => none
  | .sub => forceI (a - b) fun r => match inK k r with | true => some (.int k r) | false => none
  | .mul => forceI (a * b) fun r => match inK k r with | true => some (.int k r) | false => none
  | .eql => some (.bool (iBeq a b))
  | .neq => some (.bool (!iBeq a b))
  | .lss => some (.bool (iBlt a b))
  | .gtr => some (.bool (iBlt b a))
  | .leq => some (.bool (!iBlt b a))
  | .geq => some (.bool (!iBlt a b))
  | _ => none
omit [Tab] in
theorem intOp_run {op : BinOp} {k : IntKind} {a b : Int} {y : Value} (h : intOp op k a b = some y) (t : TypeId) (x z : Operand) :
    ((do eqGuard op t x z (.int k a) (.int k b); binOp op t (.int k a) (.int k b) : Sem Value)).run P w = .ok y w ∧ clean y = true := by
  unfold intOp at h
  simp only [forceI_eq] at h
  split at h
  case h_1 => split at h <;> simp at h; rename_i hk; subst h; simp [eqGuard, binOp, Op.intArith, inK_wrap hk, clean]
  case h_2 => split at h <;> simp at h; rename_i hk; subst h; simp [eqGuard, binOp, Op.intArith, inK_wrap hk, clean]
  case h_3 => split at h <;> simp at h; rename_i hk; subst h; simp [eqGuard, binOp, Op.intArith, inK_wrap hk, clean]
  case h_4 => cases h; simp [eqGuard, binOp, Op.intCmp, iBeq_eq, clean]
  case h_5 => cases h; simp [eqGuard, binOp, Op.intCmp, iBeq_eq, clean, bne]
  case h_6 => cases h; simp [eqGuard, binOp, Op.intCmp, iBlt_eq, clean]
  case h_7 => cases h; simp [eqGuard, binOp, Op.intCmp, iBlt_eq, clean]
  case h_8 => cases h; simp [eqGuard, binOp, Op.intCmp, not_blt, clean]
  case h_9 => cases h; simp [eqGuard, binOp, Op.intCmp, not_blt, clean]
  case h_10 => cases h
/-- what an operation on two whole numbers comes to -/
def resOp (op : BinOp) (k k' : IntKind) (a b : Int) : Option Int :=
  match op with
  | .shl => if b < 0 then none else some (k.wrap (a * 2 ^ (min b.toNat k.bits)))
  | .shr => if b < 0 then none else some (a.fdiv (2 ^ (min b.toNat k.bits)))
  | .add => if k = k' then some (k.wrap (a + b)) else none
  | .sub => if k = k' then some (k.wrap (a - b)) else none
  | .mul => if k = k' then some (k.wrap (a * b)) else none
  | .quo => if k = k' ∧ b ≠ 0 then some (k.wrap (a.tdiv b)) else none
  | .rem => if k = k' ∧ b ≠ 0 then some (a.tmod b) else none
  | .and => if k = k' then some (k.wrap (BitVec.ofInt k.bits a &&& BitVec.ofInt k.bits b).toNat) else none
  | .or => if k = k' then some (k.wrap (BitVec.ofInt k.bits a ||| BitVec.ofInt k.bits b).toNat) else none
  | .xor => if k = k' then some (k.wrap (BitVec.ofInt k.bits a ^^^ BitVec.ofInt k.bits b).toNat) else none
  | .andNot => if k = k' then some (k.wrap (BitVec.ofInt k.bits a &&& ~~~BitVec.ofInt k.bits b).toNat) else none
  | _ => none
omit [Tab] in
theorem resOp_run {P : Program} {op : BinOp} {k k' : IntKind} {a b r : Int} (h : resOp op k k' a b = some r) (t : TypeId) (x z : Operand) (w : World) :
    ((do eqGuard op t x z (.int k a) (.int k' b); binOp op t (.int k a) (.int k' b) : Sem Value)).run P w = .ok (.int k r) w := by
  unfold resOp at h
  cases op <;> simp only at h <;> (try (cases h; done)) <;> split at h <;> (try (cases h; done)) <;> rename_i hk <;> cases h
  all_goals first
    | (subst hk; simp [eqGuard, binOp, Op.intArith, Op.intBits])
    | (obtain ⟨rfl, hb⟩ := hk; simp [eqGuard, binOp, Op.intDiv, hb])
    | (simp [eqGuard, binOp, Op.shift, hk])
/-- bits, shifts and division, without the model's monad -/
def bitOp (op : BinOp) (k k' : IntKind) (a b : Int) : Option Value :=
  match resOp op k k' a b with
  | some r => forceI r fun r => some (.int k r)
  | none => none
omit [Tab] in
theorem bitOp_run {op : BinOp} {k k' : IntKind} {a b : Int} {y : Value} (h : bitOp op k k' a b = some y) (t : TypeId) (x z : Operand) :
    ((do eqGuard op t x z (.int k a) (.int k' b); binOp op t (.int k a) (.int k' b) : Sem Value)).run P w = .ok y w ∧ clean y = true := by
  unfold bitOp at h
  split at h
  · rename_i r hr
    rw [forceI_eq] at h
    cases h
    exact ⟨resOp_run hr t x z w, rfl⟩
  · cases h
/-- is it nil? -/
def nilQ (P : Program) (t : TypeId) (x y : Value) : Option Bool :=
  match P.underlying t, x, y with
  | some (.pointer _), .pointer none, .pointer (some _) => some false
  | some (.pointer _), .pointer (some _), .pointer none => some false
  | some (.slice _), .slice none _ _, .slice (some _) _ _ => some false
  | some (.slice _), .slice (some _) _ _, .slice none _ _ => some false
  | some (.map _ _), .map none, .map (some _) => some false
  | some (.map _ _), .map (some _), .map none => some false
  | some (.func _ _ _), .nilFunc, .func _ _ _ => some false
  | some (.func _ _ _), .func _ _ _, .nilFunc => some false
  | some (.interface _), .nilIface, .iface _ _ => some false
  | some (.interface _), .iface _ _, .nilIface => some false
  | _, _, _ => none
theorem nilQ_in {t : TypeId} {x y u v : Value} {b : Bool} (h : nilQ P t x y = some b) (hx : VR M σ x u) (hy : VR M σ y v) (d : Nat) : (Op.equalIn (d + 1) t u v).run P w = .ok b w := by
  unfold nilQ at h
  split at h <;> (try (cases h; done)) <;> rename_i hu <;> cases h <;> cases hx <;> cases hy <;> simp [Op.equalIn, run_underlying' hu]
theorem nilQ_guard {t : TypeId} {x y u v : Value} {b : Bool} (h : nilQ P t x y = some b) (hx : VR M σ x u) (hy : VR M σ y v) (op : BinOp) (a c : Operand) : (eqGuard op t a c u v).run P w = .ok () w := by
  unfold nilQ at h
  split at h <;> (try (cases h; done)) <;> cases hx <;> cases hy <;> cases op <;> rfl
theorem nilQ_run {t : TypeId} {x y u v : Value} {b : Bool} (h : nilQ P t x y = some b) (hx : VR M σ x u) (hy : VR M σ y v) : (Op.equal t u v).run P w = .ok b w ∧ ∀ op a c, (eqGuard op t a c u v).run P w = .ok () w :=
  ⟨nilQ_in h hx hy 9999, fun op a c => nilQ_guard h hx hy op a c⟩
/-- a pointer against itself -/
def samePtr (P : Program) (op : BinOp) (t : TypeId) (u v : Value) : Option Value :=
  match u, v with
  | .pointer (some ⟨i, o, none⟩), .pointer (some ⟨j, q, none⟩) => match Nat.beq i j && Nat.beq o q, P.underlying t with
    | true, some (.pointer te) => match P.info? te with
      | some _ => match op with
        | .eql => some (.bool true)
        | .neq => some (.bool false)
        | _ => none
      | none => none
    | _, _ => none
  | _, _ => none
theorem samePtr_ok {op : BinOp} {t : TypeId} {u v y a c : Value} (hu : VR M σ u a) (hv : VR M σ v c) (h : samePtr P op t u v = some y) (x z : Operand) : ((do eqGuard op t x z a c; binOp op t a c : Sem Value)).run P w = .ok y w ∧ clean y = true := by
  unfold samePtr at h
  split at h
  · rename_i i o j q
    split at h
    · rename_i te he ht
      split at h
      · rename_i inf hi
        rw [Bool.and_eq_true] at he
        have e1 := Nat.eq_of_beq_eq_true he.1
        have e2 := Nat.eq_of_beq_eq_true he.2
        subst e1; subst e2
        cases hu with
        | ptr _ hp =>
          rename_i p
          cases hv with
          | ptr _ hp' =>
            rename_i p'
            rw [hp] at hp'; cases hp'
            split at h
            · cases h
              refine ⟨?_, rfl⟩
              have := Go.run_eql_ptr_same (P := P) w (tp := t) (te := te) ⟨p.b, p.s + o, none⟩ ht hi
              rw [Sem.run_bind]
              show ((eqGuard .eql t x z (.pointer (some ⟨p.b, p.s + o, none⟩)) (.pointer (some ⟨p.b, p.s + o, none⟩))).run P w).andThen _ = _
              simp [eqGuard, this]
            · cases h
              refine ⟨?_, rfl⟩
              have := Go.Lib.run_neq_ptr_same (P := P) w (tp := t) (te := te) ⟨p.b, p.s + o, none⟩ ht hi
              rw [Sem.run_bind]
              simp [eqGuard, this]
            · cases h
      · cases h
    · cases h
  · cases h
def evBin (P : Program) (op : BinOp) (t : TypeId) (x z : Operand) (u v : Value) : Option Value :=
  match u, v with
  | .int k a, .int k' b => match kEq k k' with
    | true => match intOp op k a b with
      | some y => some y
      | none => match bitOp op k k' a b with
        | some y => some y
        | none => evClean P (do eqGuard op t x z u v; binOp op t u v)
    | false => match bitOp op k k' a b with
      | some y => some y
      | none => evClean P (do eqGuard op t x z u v; binOp op t u v)
  | _, _ => match clean u && clean v with
    | true => evClean P (do eqGuard op t x z u v; binOp op t u v)
    | false => match op, nilQ P t u v with
      | .eql, some b => some (.bool b)
      | .neq, some b => some (.bool (!b))
      | op, none => samePtr P op t u v
      | _, _ => none
theorem evClean_sound {s : Sem Value} {y : Value} (h : evClean P s = some y) : s.run P w = .ok y w ∧ clean y = true := by
  unfold evClean at h
  split at h
  · rename_i r hr
    split at h
    · rename_i hc; cases h; exact ⟨still_run s hr w, hc⟩
    · cases h
  · cases h
theorem evBin_ok {op : BinOp} {t t' : TypeId} {x z : Operand} {η : Operand → Value} {u v : Value} (hu : VR M σ u (η x)) (hv : VR M σ v (η z)) {y : Value} (h : evBin P op t x z u v = some y) {o : Oper} (ho : o.op = .binOp op t x z t') :
    Snd M σ H w ((execOp η o).run P w) (.pure y) := by
  have key : ∀ y, (do eqGuard op t x z (η x) (η z); binOp op t (η x) (η z) : Sem Value).run P w = .ok y w → (execOp η o).run P w = .ok (.value y) w := fun y h => by
    simp only [execOp, ho]
    rw [Sem.run_bind, h]
    simp
  have kc : evClean P (do eqGuard op t x z u v; binOp op t u v) = some y → clean u = true → clean v = true → Snd M σ H w ((execOp η o).run P w) (.pure y) := fun h c1 c2 => by
    obtain ⟨h1, h2⟩ := evClean_sound (w := w) h
    rw [← hu.eq_of_clean c1, ← hv.eq_of_clean c2] at h1
    exact ⟨y, .inl (key y h1), VR.of_clean _ h2⟩
  unfold evBin at h
  split at h
  · rename_i k a k' b
    split at h
    · rename_i hk
      split at h
      · rename_i y' hy
        cases h
        have := kEq_eq hk
        subst this
        obtain ⟨h1, h2⟩ := intOp_run (P := P) (w := w) hy t x z
        rw [← hu.eq_of_clean rfl, ← hv.eq_of_clean rfl] at h1
        exact ⟨y, .inl (key y h1), VR.of_clean _ h2⟩
      · split at h
        · rename_i y' hy
          cases h
          obtain ⟨h1, h2⟩ := bitOp_run (P := P) (w := w) hy t x z
          rw [← hu.eq_of_clean rfl, ← hv.eq_of_clean rfl] at h1
          exact ⟨y, .inl (key y h1), VR.of_clean _ h2⟩
        · exact kc h rfl rfl
    · split at h
      · rename_i y' hy
        cases h
        obtain ⟨h1, h2⟩ := bitOp_run (P := P) (w := w) hy t x z
        rw [← hu.eq_of_clean rfl, ← hv.eq_of_clean rfl] at h1
        exact ⟨y, .inl (key y h1), VR.of_clean _ h2⟩
      · exact kc h rfl rfl
  · split at h
    · rename_i hc
      rw [Bool.and_eq_true] at hc
      exact kc h hc.1 hc.2
    · split at h
      · rename_i b hb
        cases h
        obtain ⟨h1, h2⟩ := nilQ_run (P := P) (w := w) hb hu hv
        refine ⟨.bool b, .inl (key _ ?_), .bool _⟩
        have hbin : binOp .eql t (η x) (η z) = (do pure (.bool (← Op.equal t (η x) (η z)))) := by
          unfold nilQ at hb
          split at hb <;> (try (cases hb; done)) <;> generalize η x = a at * <;> generalize η z = c at * <;> cases hu <;> cases hv <;> rfl
        simp [h2, hbin, h1]
      · rename_i b hb
        cases h
        obtain ⟨h1, h2⟩ := nilQ_run (P := P) (w := w) hb hu hv
        refine ⟨.bool (!b), .inl (key _ ?_), .bool _⟩
        have hbin : binOp .neq t (η x) (η z) = (do pure (.bool (!(← Op.equal t (η x) (η z))))) := by
          unfold nilQ at hb
          split at hb <;> (try (cases hb; done)) <;> generalize η x = a at * <;> generalize η z = c at * <;> cases hu <;> cases hv <;> rfl
        simp [h2, hbin, h1]
      · obtain ⟨h1, h2⟩ := samePtr_ok (P := P) (w := w) hu hv h x z
        exact ⟨y, .inl (key _ h1), VR.of_clean _ h2⟩
      · cases h
end
end Go.Proofs.YtlpepmhpnmnpkaaDoor.Ev
