/-
  A checked evaluator, part D: one operation.
-/
import Derived.Test.YtlpepmhpnmnpkaaDoorEvC
set_option linter.unusedVariables false
set_option linter.unusedSectionVars false
set_option linter.unusedSimpArgs false
namespace Go.Proofs.YtlpepmhpnmnpkaaDoor.Ev
open Go Go.RowKit
variable [Tab]

/-- what is called -/
inductive Tg where
  | fn (f : FuncId)
  | yield (l : Nat)
  | dfn (f : FuncId)
/-- what an operation does -/
inductive OpR where
  | pure (v : Value)
  | new (b : Blk) (mk : Nat → Value)
  | upd (v : Value) (H : Tr Blk) (nx : Nat)
  | call (t : Tg) (args : List Value)

/-- the temporaries of a round -/
def roundTmps (r : Loop) (args : Array Value) : Array Value := (r.params.zip args).foldl (fun tmps (t, a) => tmps.setIfInBounds t a) r.tmps
section
variable {P : Program} {M : Mp} {σ : Nat → Value} {H : Tr Blk} {w : World}
/-- the operation ends so -/
def Snd (M : Mp) (σ : Nat → Value) (H : Tr Blk) (w : World) (r : Result Next) : OpR → Prop
  | .pure v => ∃ u, (r = .ok (.value u) w ∨ (r = .ok .skip w ∧ u = undef)) ∧ VR M σ v u
  | .new b mk => b.live = true ∧ ∃ o n u, r = .ok (.value u) (w.alloc o) ∧ (∀ M', Le M M' → BR M' σ b ⟨w.heap.size, 0, n⟩ (w.alloc o)) ∧ ∀ (id : Nat) (M' : Mp), M' (key id) = some ⟨w.heap.size, 0, n⟩ → VR M' σ (mk id) u
  | .upd v H' _ => ∃ u M' w', (r = .ok (.value u) w' ∨ (r = .ok .skip w' ∧ u = undef)) ∧ VR M' σ v u ∧ HR M' σ H'.get w' ∧ Stp M H.get w M' H'.get w'
  | .call (.fn f) args => ∃ vs, r = .ok (.enter f vs.toArray) w ∧ VRs M σ args vs
  | .call (.yield i) args => ∃ vs p l, M (key i) = some p ∧ w.heap[p.b]? = some (.loop l) ∧ r = .ok (.round p.b l.fn (roundTmps l vs.toArray) l.assign l.body) w ∧ VRs M σ args vs
  | .call (.dfn _) _ => False

/-- a row of cells that is known whole -/
theorem snd_row {t : TypeId} {xs vs : List Value} {mk : Nat → Value} {u : Value} {r : Result Next} (h : r = .ok (.value u) (w.alloc (.cells vs.toArray t))) (hr : VRs M σ xs vs) (hm : ∀ (id : Nat) (M' : Mp), M' (key id) = some ⟨w.heap.size, 0, vs.length⟩ → VR M' σ (mk id) u) :
    Snd M σ H w r (.new (.cells t xs) mk) := by
  refine ⟨rfl, _, vs.length, u, h, fun M' hl => ?_, hm⟩
  have := BR.row (M := M') (σ := σ) (w := w) (t := t) (xs := xs) (vs := vs.toArray) (by simp [hr.length]) fun j x hx => by
    obtain ⟨v, hv, hr'⟩ := hr.get hx
    exact ⟨v, by simpa using hv, hr'.mono hl⟩
  simpa using this
def pureO : Option Value → Option OpR
  | some v => some (.pure v)
  | none => none
theorem pureO_eq {x : Option Value} {r : OpR} (h : pureO x = some r) : ∃ v, x = some v ∧ r = .pure v := by
  cases x with
  | none => cases h
  | some v => cases h; exact ⟨v, rfl, rfl⟩
def ptrTo (id : Nat) : Value := .pointer (some ⟨id, 0, none⟩)
theorem ptrTo_vr {id : Nat} {M' : Mp} {b n : Nat} (h : M' (key id) = some ⟨b, 0, n⟩) : VR M' σ (ptrTo id) (.pointer (some ⟨b, 0, none⟩)) := by
  have := VR.ptr (σ := σ) 0 h
  simpa [ptrTo] using this
def sliceTo (l c : Nat) (id : Nat) : Value := .slice (some ⟨id, 0, none⟩) l c
theorem sliceTo_vr {id l c : Nat} {M' : Mp} {b n : Nat} (h : M' (key id) = some ⟨b, 0, n⟩) : VR M' σ (sliceTo l c id) (.slice (some ⟨b, 0, none⟩) l c) := by
  have := VR.slice (σ := σ) 0 l c h
  simpa [sliceTo] using this

/-- what the operands stand for -/
def Opd (M : Mp) (σ : Nat → Value) (ρ : Operand → Option Value) (η : Operand → Value) : Prop := ∀ x y, ρ x = some y → VR M σ y (η x)

/-! ### alloc, box -/
def evAlloc (P : Program) (t : TypeId) : Option OpR :=
  match P.info? t with
  | some i => match i.zero with
    | some z => match cleans z.cells.toList with
      | true => some (.new (.cells t z.cells.toList) ptrTo)
      | false => none
    | none => none
  | none => none
theorem evAlloc_ok {t : TypeId} {r : OpR} (h : evAlloc P t = some r) {o : Oper} (ho : o.op = .alloc t) (η : Operand → Value) : Snd M σ H w ((execOp η o).run P w) r := by
  unfold evAlloc at h
  split at h
  · rename_i i hi
    split at h
    · rename_i z hz
      split at h
      · rename_i hc
        cases h
        refine snd_row (vs := z.cells.toList) (u := .pointer (some ⟨w.heap.size, 0, none⟩)) ?_ (VRs.of_clean _ hc) (fun id M' hm => ptrTo_vr hm)
        simp [execOp, ho, Instr.alloc, zeroValue, run_typeInfo' hi, hz, newVar, newRow]
      · cases h
    · cases h
  · cases h
theorem evBox_ok {t : TypeId} {x : Operand} {η : Operand → Value} {v : Value} (hv : VR M σ v (η x)) {o : Oper} (ho : o.op = .box t x) : Snd M σ H w ((execOp η o).run P w) (.new (.cells t v.cells.toList) ptrTo) := by
  refine snd_row (vs := (η x).cells.toList) (u := .pointer (some ⟨w.heap.size, 0, none⟩)) ?_ hv.cells (fun id M' hm => ptrTo_vr hm)
  simp [execOp, ho, Instr.box, newVar, newRow]

/-! ### load, store -/
theorem evLoad_ok (hH : HR M σ H.get w) {t : TypeId} {a : Operand} {η : Operand → Value} {i o : Nat} (ha : VR M σ (.pointer (some ⟨i, o, none⟩)) (η a)) {y : Value} (h : loadE P t H i o = some y) {op : Oper} (ho : op.op = .load t a) :
    Snd M σ H w ((execOp η op).run P w) (.pure y) := by
  generalize hv : η a = v at ha
  cases ha with
  | ptr _ hp =>
    obtain ⟨u, hu, hr⟩ := loadVar_run hH h hp
    exact ⟨u, .inl (by simp [execOp, ho, Instr.loadAt, hv, Instr.sureAddr, hu]), hr⟩

theorem evLoadG_ok (hH : HR M σ H.get w) {t : TypeId} {a : Operand} {η : Operand → Value} {b o : Nat} (ha : VR M σ (.pointer (some ⟨b, o, some 0⟩)) (η a)) {y : Value} (h : loadG P t b o = some y) {op : Oper} (ho : op.op = .load t a) :
    Snd M σ H w ((execOp η op).run P w) (.pure y) := by
  generalize hv : η a = v at ha
  cases ha with
  | abs =>
    obtain ⟨u, hu, hr⟩ := loadG_run hH h
    exact ⟨u, .inl (by simp [execOp, ho, Instr.loadAt, hv, Instr.sureAddr, hu]), hr⟩
/-- cells put over others -/
def over : List Value → List Value → Option (List Value)
  | xs, [] => some xs
  | x :: xs, y :: ys => match over xs ys with | some r => some (y :: r) | none => none
  | [], _ :: _ => none
def splice : List Value → Nat → List Value → Option (List Value)
  | xs, 0, ys => over xs ys
  | x :: xs, o + 1, ys => match splice xs o ys with | some r => some (x :: r) | none => none
  | [], _ + 1, _ => none
theorem over_eq : ∀ {xs ys r : List Value}, over xs ys = some r → ys.length ≤ xs.length ∧ r = ys ++ xs.drop ys.length
  | xs, [], r, h => by cases xs <;> (simp [over] at h; subst h; simp)
  | x :: xs, y :: ys, r, h => by
    simp only [over] at h
    split at h
    · rename_i r' hr'; cases h
      obtain ⟨h1, h2⟩ := over_eq hr'
      exact ⟨by simp; omega, by simp [h2]⟩
    · cases h
  | [], _ :: _, r, h => by simp [over] at h
theorem splice_eq : ∀ {xs : List Value} {o : Nat} {ys r : List Value}, splice xs o ys = some r → o + ys.length ≤ xs.length ∧ r = xs.take o ++ ys ++ xs.drop (o + ys.length)
  | xs, 0, ys, r, h => by
    have h' : over xs ys = some r := by cases xs <;> simpa [splice] using h
    obtain ⟨h1, h2⟩ := over_eq h'
    exact ⟨by omega, by simp [h2]⟩
  | x :: xs, o + 1, ys, r, h => by
    simp only [splice] at h
    split at h
    · rename_i r' hr'; cases h
      obtain ⟨h1, h2⟩ := splice_eq hr'
      refine ⟨by simp; omega, ?_⟩
      rw [h2, show o + 1 + ys.length = (o + ys.length) + 1 by omega]; simp
    · cases h
  | [], _ + 1, _, r, h => by simp [splice] at h
/-- several cells are written, one after the other -/
theorem storeCells_run {k : Key} {t : TypeId} {p : Place} (hp : M k = some p) : ∀ (ys vs : List Value) (xs : List Value) (o i : Nat) (H : HP) (w : World), HR M σ H w → H k = some (.cells t xs) → VRs M σ ys vs → (∀ y ∈ ys, y.oneCell' = true) →
    o + i + ys.length ≤ xs.length → ∃ w', (storeCells ⟨p.b, p.s + o, none⟩ vs i).run P w = .ok () w' ∧ HR M σ (upd H k (.cells t (xs.take (o + i) ++ ys ++ xs.drop (o + i + ys.length)))) w' ∧ Stp M H w M (upd H k (.cells t (xs.take (o + i) ++ ys ++ xs.drop (o + i + ys.length)))) w'
  | [], _, xs, o, i, H, w, hH, hg, .nil, _, hl => by
    have e : upd H k (.cells t (xs.take (o + i) ++ [] ++ xs.drop (o + i + 0))) = H := by
      funext k'
      by_cases hk : k' = k
      · subst hk; simp [upd, hg]
      · simp [upd, hk]
    refine ⟨w, by simp [storeCells], ?_, ?_⟩ <;> simp only [List.length_nil, e]
    · exact hH
    · exact Stp.refl _ _ _
  | y :: ys, _, xs, o, i, H, w, hH, hg, .cons (v := v) (vs := vs) hr hrs, h1, hl => by
    simp only [List.length_cons] at hl
    have hoi : o + i < xs.length := by omega
    obtain ⟨v0, hv0, -⟩ := hH.cell hg hp (List.getElem?_eq_getElem hoi)
    have hpn : p.s + (o + i) < p.n := by obtain ⟨c, fr, _, _, _, _, h3, _⟩ := hH.at hg rfl hp; omega
    have hfr := hH.free hg hp hpn
    obtain ⟨a1, a2⟩ := hH.set1 hg hp hoi hr
    have hone : v.oneCell' = true := hr.one (h1 y (by simp))
    obtain ⟨w', b1, b2, b3⟩ := storeCells_run hp ys vs (xs.set (o + i) y) o (i + 1) _ _ a1 (upd_same _ _ _) hrs (fun y' hy' => h1 y' (by simp [hy'])) (by simp; omega)
    have hx : (xs.set (o + i) y).take (o + (i + 1)) ++ ys ++ (xs.set (o + i) y).drop (o + (i + 1) + ys.length) = xs.take (o + i) ++ y :: ys ++ xs.drop (o + i + (ys.length + 1)) := by
      rw [show o + (i + 1) = o + i + 1 by omega, List.take_succ_eq_append_getElem (by simpa using hoi)]
      simp only [List.getElem_set_self, List.take_set_of_le (Nat.le_refl _)]
      rw [List.drop_set_of_lt (by omega), show o + i + 1 + ys.length = o + i + (ys.length + 1) by omega]
      simp
    have hu : ∀ l, upd (upd H k (.cells t (xs.set (o + i) y))) k (.cells t l) = upd H k (.cells t l) := fun l => by
      funext k'; by_cases hk : k' = k <;> simp [upd, hk]
    rw [hx, hu] at b2 b3
    refine ⟨w', ?_, by simpa using b2, by simpa using a2.trans b3⟩
    rw [show p.s + (o + i) = p.s + o + i by omega] at hv0 hfr b1
    simp only [storeCells, Sem.run_bind, addr_add, run_store _ _ _ _ _ hone, hv0, hfr, Result.andThen_ok, Bool.false_eq_true, if_false]
    exact b1
def evStore (P : Program) (t : TypeId) (H : Tr Blk) (nx i o : Nat) (x : Value) : Option OpR :=
  match sizeT P t with
  | some n => match Nat.beq x.cells.toList.length n with
    | true => match x.cells.toList.all Value.oneCell' with
      | true => match H.get (key i) with
        | some (.cells e xs) => match splice xs o x.cells.toList with
          | some ys => some (.upd undef (H.set (key i) (.cells e ys)) nx)
          | none => none
        | _ => none
      | false => none
    | false => none
  | none => none
theorem undef_vr : VR M σ undef undef := .tuple .nil
theorem evStore_ok (hH : HR M σ H.get w) {t : TypeId} {a x : Operand} {η : Operand → Value} {i o : Nat} (ha : VR M σ (.pointer (some ⟨i, o, none⟩)) (η a)) {v : Value} (hx : VR M σ v (η x)) {nx : Nat} {r : OpR} (h : evStore P t H nx i o v = some r) {op : Oper} (ho : op.op = .store t a x) :
    Snd M σ H w ((execOp η op).run P w) r := by
  unfold evStore at h
  split at h
  · rename_i n hn
    split at h
    · rename_i hln
      split at h
      · rename_i hone
        split at h
        · rename_i e xs hg
          split at h
          · rename_i ys hys
            cases h
            obtain ⟨h1, h2⟩ := splice_eq hys
            generalize hv : η a = va at ha
            cases ha with
            | ptr _ hp =>
              obtain ⟨w', b1, b2, b3⟩ := storeCells_run (P := P) hp v.cells.toList (η x).cells.toList xs o 0 H.get w hH hg hx.cells (fun y hy => List.all_eq_true.1 hone y hy) (by omega)
              have hsz : (η x).cells.size = n := by
                have := hx.cells.length
                have h3 := Nat.eq_of_beq_eq_true hln
                simp only [Array.length_toList] at this h3
                omega
              subst h2
              refine ⟨undef, M, w', .inr ⟨?_, rfl⟩, undef_vr, by rw [Tr.get_upd]; exact b2, by rw [Tr.get_upd]; exact b3⟩
              simp [execOp, ho, Instr.storeAt, hv, Instr.sureAddr, storeVar, run_sizeOf' hn, hsz, b1]
          · cases h
        · cases h
      · cases h
    · cases h
  · cases h

/-! ### addresses -/
def fieldE (P : Program) (s : TypeId) (f : Nat) : Option Field :=
  match P.underlying s with
  | some (.struct fs) => fs[f]?
  | _ => none
def evFieldAddr (P : Program) (s : TypeId) (f : Nat) : Value → Option OpR
  | .pointer (some ⟨i, o, none⟩) => match fieldE P s f with
    | some fd => match sizeT P fd.type with
      | some (_ + 1) => some (.pure (.pointer (some ⟨i, o + fd.offset, none⟩)))
      | _ => none
    | none => none
  | .pointer (some ⟨i, o, some 0⟩) => match fieldE P s f with
    | some fd => match sizeT P fd.type with
      | some (_ + 1) => some (.pure (.pointer (some ⟨i, o + fd.offset, some 0⟩)))
      | _ => none
    | none => none
  | _ => none
theorem evFieldAddr_ok {s : TypeId} {x : Operand} {f : Nat} {η : Operand → Value} {v : Value} (hv : VR M σ v (η x)) {r : OpR} (h : evFieldAddr P s f v = some r) {op : Oper} (ho : op.op = .fieldAddr s x f) :
    Snd M σ H w ((execOp η op).run P w) r := by
  unfold evFieldAddr at h
  split at h
  · rename_i i o
    split at h
    · rename_i fd hfd
      split at h
      · rename_i m hm
        cases h
        generalize hx : η x = va at hv
        cases hv with
        | ptr _ hp =>
          rename_i p
          unfold fieldE at hfd
          split at hfd
          · rename_i fs hfs
            refine ⟨.pointer (some ⟨p.b, p.s + (o + fd.offset), none⟩), .inl ?_, .ptr _ hp⟩
            simp [execOp, ho, Instr.fieldAt, hx, run_underlying' hfs, hfd, Instr.sureAddr, fieldPlace, run_sizeOf' hm, addr_add, Nat.add_assoc]
          · cases hfd
      · cases h
    · cases h
  · rename_i i o
    split at h
    · rename_i fd hfd
      split at h
      · rename_i m hm
        cases h
        generalize hx : η x = va at hv
        cases hv with
        | abs =>
          unfold fieldE at hfd
          split at hfd
          · rename_i fs hfs
            refine ⟨.pointer (some ⟨i, o + fd.offset, none⟩), .inl ?_, .abs _ _⟩
            simp [execOp, ho, Instr.fieldAt, hx, run_underlying' hfs, hfd, Instr.sureAddr, fieldPlace, run_sizeOf' hm, addr_add]
          · cases hfd
      · cases h
    · cases h
  · cases h
/-- an index that is in range -/
def idx : Value → Option Nat
  | .int _ (.ofNat n) => some n
  | _ => none
theorem idx_eq {v u : Value} {n : Nat} (h : idx v = some n) (hr : VR M σ v u) : ∃ k, u = .int k (n : Int) := by
  unfold idx at h
  split at h
  · cases h; cases hr; exact ⟨_, rfl⟩
  · cases h
def evIndexAddr (P : Program) (t : TypeId) (x ix : Value) : Option OpR :=
  match idx ix with
  | some n => match P.underlying t, x with
    | some (.array len e), .pointer (some ⟨i, o, none⟩) => match Nat.blt n len, sizeT P e with
      | true, some z => some (.pure (.pointer (some ⟨i, o + n * z, none⟩)))
      | _, _ => none
    | some (.array len e), .pointer (some ⟨i, o, some 0⟩) => match Nat.blt n len, sizeT P e with
      | true, some z => some (.pure (.pointer (some ⟨i, o + n * z, some 0⟩)))
      | _, _ => none
    | some (.slice e), .slice (some ⟨i, o, none⟩) len _ => match Nat.blt n len, sizeT P e with
      | true, some z => some (.pure (.pointer (some ⟨i, o + n * z, none⟩)))
      | _, _ => none
    | some (.slice e), .slice (some ⟨i, o, some z'⟩) len _ => match Nat.blt n len, sizeT P e with
      | true, some z => some (.pure (.pointer (some ⟨i, o + n * z, none⟩)))
      | _, _ => none
    | _, _ => none
  | none => none
theorem blt_lt {a b : Nat} (h : Nat.blt a b = true) : a < b := by simpa [Nat.blt_eq] using h
theorem evIndexAddr_ok {t : TypeId} {x ix : Operand} {η : Operand → Value} {v i : Value} (hv : VR M σ v (η x)) (hi : VR M σ i (η ix)) {r : OpR} (h : evIndexAddr P t v i = some r) {op : Oper} (ho : op.op = .indexAddr t x ix) :
    Snd M σ H w ((execOp η op).run P w) r := by
  unfold evIndexAddr at h
  split at h
  · rename_i n hn
    obtain ⟨k, hk⟩ := idx_eq hn hi
    generalize hx : η x = va at hv
    split at h
    · rename_i len e b o hu
      split at h
      · rename_i z hlt hz
        cases h
        cases hv with
        | ptr _ hp =>
          rename_i p
          refine ⟨.pointer (some ⟨p.b, p.s + (o + n * z), none⟩), .inl ?_, .ptr _ hp⟩
          have := blt_lt hlt
          simp [execOp, ho, Instr.indexAt, hk, hx, asIntOf, run_underlying' hu, Instr.sureAddr, run_sizeOf' hz, addr_add, this, Nat.add_assoc]
      · cases h
    · rename_i len e b o hu
      split at h
      · rename_i z hlt hz
        cases h
        cases hv with
        | abs =>
          refine ⟨.pointer (some ⟨b, o + n * z, none⟩), .inl ?_, .abs _ _⟩
          have := blt_lt hlt
          simp [execOp, ho, Instr.indexAt, hk, hx, asIntOf, run_underlying' hu, Instr.sureAddr, run_sizeOf' hz, addr_add, this]
      · cases h
    · rename_i e b o len c hu
      split at h
      · rename_i z hlt hz
        cases h
        cases hv with
        | slice _ _ _ hp =>
          rename_i p
          refine ⟨.pointer (some ⟨p.b, p.s + (o + n * z), none⟩), .inl ?_, .ptr _ hp⟩
          have := blt_lt hlt
          simp [execOp, ho, Instr.indexAt, hk, hx, asIntOf, run_underlying' hu, Instr.sureAddr, run_sizeOf' hz, addr_add, this, Nat.add_assoc]
      · cases h
    · rename_i e b o z' len c hu
      split at h
      · rename_i z hlt hz
        cases h
        cases hv with
        | grown _ _ _ _ c' hp =>
          rename_i p _ _ _
          refine ⟨.pointer (some ⟨p.b, p.s + (o + n * z), none⟩), .inl ?_, .ptr _ hp⟩
          have := blt_lt hlt
          simp [execOp, ho, Instr.indexAt, hk, hx, asIntOf, run_underlying' hu, Instr.sureAddr, run_sizeOf' hz, addr_add, this, Nat.add_assoc]
      · cases h
    · cases h
  · cases h
end
end Go.Proofs.YtlpepmhpnmnpkaaDoor.Ev
