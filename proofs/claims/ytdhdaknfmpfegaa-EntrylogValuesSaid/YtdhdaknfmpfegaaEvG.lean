/-
  A checked evaluator, part D: one operation.
-/
import Derived.Test.YtdhdaknfmpfegaaEvC
import Derived.IntWalk
import Derived.Lib.Builder
section
set_option linter.unusedVariables false
set_option linter.unusedSectionVars false
set_option linter.unusedSimpArgs false
namespace Go.Proofs.Ytdhdaknfmpfegaa.Ev
open Go Go.RowKit
variable [Tab]

/-- what is called -/
inductive Tg where
  | fn (f : FuncId)
  | yield (l : Nat)
  | dfn (f : FuncId)
/-- what an operation does -/
inductive OpR where
  | pure (v : Value)
  | new (b : Blk) (mk : Nat → Value)
  | upd (v : Value) (H : Tr Blk) (nx : Nat)
  | call (t : Tg) (args : List Value)

/-- the temporaries of a round -/
def roundTmps (r : Loop) (args : Array Value) : Array Value := (r.params.zip args).foldl (fun tmps (t, a) => tmps.setIfInBounds t a) r.tmps
section
variable {P : Program} {M : Mp} {σ : Nat → Value} {H : Tr Blk} {w : World}
/-- the operation ends so -/
def Snd (M : Mp) (σ : Nat → Value) (H : Tr Blk) (w : World) (r : Result Next) : OpR → Prop
  | .pure v => ∃ u, (r = .ok (.value u) w ∨ (r = .ok .skip w ∧ u = undef)) ∧ VR M σ v u
  | .new b mk => b.live = true ∧ ∃ o n u, r = .ok (.value u) (w.alloc o) ∧ (∀ M', Le M M' → BR M' σ b ⟨w.heap.size, 0, n⟩ (w.alloc o)) ∧ ∀ (id : Nat) (M' : Mp), M' (key id) = some ⟨w.heap.size, 0, n⟩ → VR M' σ (mk id) u
  | .upd v H' _ => ∃ u M' w', (r = .ok (.value u) w' ∨ (r = .ok .skip w' ∧ u = undef)) ∧ VR M' σ v u ∧ HR M' σ H'.get w' ∧ Stp M H.get w M' H'.get w'
  | .call (.fn f) args => ∃ vs, r = .ok (.enter f vs.toArray) w ∧ VRs M σ args vs
  | .call (.yield i) args => ∃ vs p l, M (key i) = some p ∧ w.heap[p.b]? = some (.loop l) ∧ r = .ok (.round p.b l.fn (roundTmps l vs.toArray) l.assign l.body) w ∧ VRs M σ args vs
  | .call (.dfn _) _ => False

/-- a row of cells that is known whole -/
theorem snd_row {t : TypeId} {xs vs : List Value} {mk : Nat → Value} {u : Value} {r : Result Next} (h : r = .ok (.value u) (w.alloc (.cells vs.toArray t))) (hr : VRs M σ xs vs) (hm : ∀ (id : Nat) (M' : Mp), M' (key id) = some ⟨w.heap.size, 0, vs.length⟩ → VR M' σ (mk id) u) :
    Snd M σ H w r (.new (.cells t xs) mk) := by
  refine ⟨rfl, _, vs.length, u, h, fun M' hl => ?_, hm⟩
  have := BR.row (M := M') (σ := σ) (w := w) (t := t) (xs := xs) (vs := vs.toArray) (by simp [hr.length]) fun j x hx => by
    obtain ⟨v, hv, hr'⟩ := hr.get hx
    exact ⟨v, by simpa using hv, hr'.mono hl⟩
  simpa using this
def pureO : Option Value → Option OpR
  | some v => some (.pure v)
  | none => none
theorem pureO_eq {x : Option Value} {r : OpR} (h : pureO x = some r) : ∃ v, x = some v ∧ r = .pure v := by
  cases x with
  | none => cases h
  | some v => cases h; exact ⟨v, rfl, rfl⟩
def ptrTo (id : Nat) : Value := .pointer (some ⟨id, 0, none⟩)
theorem ptrTo_vr {id : Nat} {M' : Mp} {b n : Nat} (h : M' (key id) = some ⟨b, 0, n⟩) : VR M' σ (ptrTo id) (.pointer (some ⟨b, 0, none⟩)) := by
  have := VR.ptr (σ := σ) 0 h
  simpa [ptrTo] using this
def sliceTo (l c : Nat) (id : Nat) : Value := .slice (some ⟨id, 0, none⟩) l c
theorem sliceTo_vr {id l c : Nat} {M' : Mp} {b n : Nat} (h : M' (key id) = some ⟨b, 0, n⟩) : VR M' σ (sliceTo l c id) (.slice (some ⟨b, 0, none⟩) l c) := by
  have := VR.slice (σ := σ) 0 l c h
  simpa [sliceTo] using this

/-- what the operands stand for -/
def Opd (M : Mp) (σ : Nat → Value) (ρ : Operand → Option Value) (η : Operand → Value) : Prop := ∀ x y, ρ x = some y → VR M σ y (η x)

/-! ### alloc, box -/
def evAlloc (P : Program) (t : TypeId) : Option OpR :=
  match P.info? t with
  | some i => match i.zero with
    | some z => match cleans z.cells.toList with
      | true => some (.new (.cells t z.cells.toList) ptrTo)
      | false => none
    | none => none
  | none => none
theorem evAlloc_ok {t : TypeId} {r : OpR} (h : evAlloc P t = some r) {o : Oper} (ho : o.op = .alloc t) (η : Operand → Value) : Snd M σ H w ((execOp η o).run P w) r := by
  unfold evAlloc at h
  split at h
  · rename_i i hi
    split at h
    · rename_i z hz
      split at h
      · rename_i hc
        cases h
        refine snd_row (vs := z.cells.toList) (u := .pointer (some ⟨w.heap.size, 0, none⟩)) ?_ (VRs.of_clean _ hc) (fun id M' hm => ptrTo_vr hm)
        simp [execOp, ho, Instr.alloc, zeroValue, run_typeInfo' hi, hz, newVar, newRow]
      · cases h
    · cases h
  · cases h
theorem evBox_ok {t : TypeId} {x : Operand} {η : Operand → Value} {v : Value} (hv : VR M σ v (η x)) {o : Oper} (ho : o.op = .box t x) : Snd M σ H w ((execOp η o).run P w) (.new (.cells t v.cells.toList) ptrTo) := by
  refine snd_row (vs := (η x).cells.toList) (u := .pointer (some ⟨w.heap.size, 0, none⟩)) ?_ hv.cells (fun id M' hm => ptrTo_vr hm)
  simp [execOp, ho, Instr.box, newVar, newRow]

/-! ### load, store -/
theorem evLoad_ok (hH : HR M σ H.get w) {t : TypeId} {a : Operand} {η : Operand → Value} {i o : Nat} (ha : VR M σ (.pointer (some ⟨i, o, none⟩)) (η a)) {y : Value} (h : loadE P t H i o = some y) {op : Oper} (ho : op.op = .load t a) :
    Snd M σ H w ((execOp η op).run P w) (.pure y) := by
  generalize hv : η a = v at ha
  cases ha with
  | ptr _ hp =>
    obtain ⟨u, hu, hr⟩ := loadVar_run hH h hp
    exact ⟨u, .inl (by simp [execOp, ho, Instr.loadAt, hv, Instr.sureAddr, hu]), hr⟩

theorem evLoadG_ok (hH : HR M σ H.get w) {t : TypeId} {a : Operand} {η : Operand → Value} {b o : Nat} (ha : VR M σ (.pointer (some ⟨b, o, some 0⟩)) (η a)) {y : Value} (h : loadG P t b o = some y) {op : Oper} (ho : op.op = .load t a) :
    Snd M σ H w ((execOp η op).run P w) (.pure y) := by
  generalize hv : η a = v at ha
  cases ha with
  | abs =>
    obtain ⟨u, hu, hr⟩ := loadG_run hH h
    exact ⟨u, .inl (by simp [execOp, ho, Instr.loadAt, hv, Instr.sureAddr, hu]), hr⟩
/-- cells put over others -/
def over : List Value → List Value → Option (List Value)
  | xs, [] => some xs
  | x :: xs, y :: ys => match over xs ys with | some r => some (y :: r) | none => none
  | [], _ :: _ => none
def splice : List Value → Nat → List Value → Option (List Value)
  | xs, 0, ys => over xs ys
  | x :: xs, o + 1, ys => match splice xs o ys with | some r => some (x :: r) | none => none
  | [], _ + 1, _ => none
theorem over_eq : ∀ {xs ys r : List Value}, over xs ys = some r → ys.length ≤ xs.length ∧ r = ys ++ xs.drop ys.length
  | xs, [], r, h => by cases xs <;> (simp [over] at h; subst h; simp)
  | x :: xs, y :: ys, r, h => by
    simp only [over] at h
    split at h
    · rename_i r' hr'; cases h
      obtain ⟨h1, h2⟩ := over_eq hr'
      exact ⟨by simp; omega, by simp [h2]⟩
    · cases h
  | [], _ :: _, r, h => by simp [over] at h
theorem splice_eq : ∀ {xs : List Value} {o : Nat} {ys r : List Value}, splice xs o ys = some r → o + ys.length ≤ xs.length ∧ r = xs.take o ++ ys ++ xs.drop (o + ys.length)
  | xs, 0, ys, r, h => by
    have h' : over xs ys = some r := by cases xs <;> simpa [splice] using h
    obtain ⟨h1, h2⟩ := over_eq h'
    exact ⟨by omega, by simp [h2]⟩
  | x :: xs, o + 1, ys, r, h => by
    simp only [splice] at h
    split at h
    · rename_i r' hr'; cases h
      obtain ⟨h1, h2⟩ := splice_eq hr'
      refine ⟨by simp; omega, ?_⟩
      rw [h2, show o + 1 + ys.length = (o + ys.length) + 1 by omega]; simp
    · cases h
  | [], _ + 1, _, r, h => by simp [splice] at h
/-- several cells are written, one after the other -/
theorem storeCells_run {k : Key} {t : TypeId} {p : Place} (hp : M k = some p) : ∀ (ys vs : List Value) (xs : List Value) (o i : Nat) (H : HP) (w : World), HR M σ H w → H k = some (.cells t xs) → VRs M σ ys vs → (∀ y ∈ ys, y.oneCell' = true) →
    o + i + ys.length ≤ xs.length → ∃ w', (storeCells ⟨p.b, p.s + o, none⟩ vs i).run P w = .ok () w' ∧ HR M σ (upd H k (.cells t (xs.take (o + i) ++ ys ++ xs.drop (o + i + ys.length)))) w' ∧ Stp M H w M (upd H k (.cells t (xs.take (o + i) ++ ys ++ xs.drop (o + i + ys.length)))) w'
  | [], _, xs, o, i, H, w, hH, hg, .nil, _, hl => by
    have e : upd H k (.cells t (xs.take (o + i) ++ [] ++ xs.drop (o + i + 0))) = H := by
      funext k'
      by_cases hk : k' = k
      · subst hk; simp [upd, hg]
      · simp [upd, hk]
    refine ⟨w, by simp [storeCells], ?_, ?_⟩ <;> simp only [List.length_nil, e]
    · exact hH
    · exact Stp.refl _ _ _
  | y :: ys, _, xs, o, i, H, w, hH, hg, .cons (v := v) (vs := vs) hr hrs, h1, hl => by
    simp only [List.length_cons] at hl
    have hoi : o + i < xs.length := by omega
    obtain ⟨v0, hv0, -⟩ := hH.cell hg hp (List.getElem?_eq_getElem hoi)
    have hpn : p.s + (o + i) < p.n := by obtain ⟨c, fr, _, _, _, _, h3, _⟩ := hH.at hg rfl hp; omega
    have hfr := hH.free hg hp hpn
    obtain ⟨a1, a2⟩ := hH.set1 hg hp hoi hr
    have hone : v.oneCell' = true := hr.one (h1 y (by simp))
    obtain ⟨w', b1, b2, b3⟩ := storeCells_run hp ys vs (xs.set (o + i) y) o (i + 1) _ _ a1 (upd_same _ _ _) hrs (fun y' hy' => h1 y' (by simp [hy'])) (by simp; omega)
    have hx : (xs.set (o + i) y).take (o + (i + 1)) ++ ys ++ (xs.set (o + i) y).drop (o + (i + 1) + ys.length) = xs.take (o + i) ++ y :: ys ++ xs.drop (o + i + (ys.length + 1)) := by
      rw [show o + (i + 1) = o + i + 1 by omega, List.take_succ_eq_append_getElem (by simpa using hoi)]
      simp only [List.getElem_set_self, List.take_set_of_le (Nat.le_refl _)]
      rw [List.drop_set_of_lt (by omega), show o + i + 1 + ys.length = o + i + (ys.length + 1) by omega]
      simp
    have hu : ∀ l, upd (upd H k (.cells t (xs.set (o + i) y))) k (.cells t l) = upd H k (.cells t l) := fun l => by
      funext k'; by_cases hk : k' = k <;> simp [upd, hk]
    rw [hx, hu] at b2 b3
    refine ⟨w', ?_, by simpa using b2, by simpa using a2.trans b3⟩
    rw [show p.s + (o + i) = p.s + o + i by omega] at hv0 hfr b1
    simp only [storeCells, Sem.run_bind, addr_add, run_store _ _ _ _ _ hone, hv0, hfr, Result.andThen_ok, Bool.false_eq_true, if_false]
    exact b1
def evStore (P : Program) (t : TypeId) (H : Tr Blk) (nx i o : Nat) (x : Value) : Option OpR :=
  match sizeT P t with
  | some n => match Nat.beq x.cells.toList.length n with
    | true => match x.cells.toList.all Value.oneCell' with
      | true => match H.get (key i) with
        | some (.cells e xs) => match splice xs o x.cells.toList with
          | some ys => some (.upd undef (H.set (key i) (.cells e ys)) nx)
          | none => none
        | _ => none
      | false => none
    | false => none
  | none => none
theorem undef_vr : VR M σ undef undef := .tuple .nil
theorem evStore_ok (hH : HR M σ H.get w) {t : TypeId} {a x : Operand} {η : Operand → Value} {i o : Nat} (ha : VR M σ (.pointer (some ⟨i, o, none⟩)) (η a)) {v : Value} (hx : VR M σ v (η x)) {nx : Nat} {r : OpR} (h : evStore P t H nx i o v = some r) {op : Oper} (ho : op.op = .store t a x) :
    Snd M σ H w ((execOp η op).run P w) r := by
  unfold evStore at h
  split at h
  · rename_i n hn
    split at h
    · rename_i hln
      split at h
      · rename_i hone
        split at h
        · rename_i e xs hg
          split at h
          · rename_i ys hys
            cases h
            obtain ⟨h1, h2⟩ := splice_eq hys
            generalize hv : η a = va at ha
            cases ha with
            | ptr _ hp =>
              obtain ⟨w', b1, b2, b3⟩ := storeCells_run (P := P) hp v.cells.toList (η x).cells.toList xs o 0 H.get w hH hg hx.cells (fun y hy => List.all_eq_true.1 hone y hy) (by omega)
              have hsz : (η x).cells.size = n := by
                have := hx.cells.length
                have h3 := Nat.eq_of_beq_eq_true hln
                simp only [Array.length_toList] at this h3
                omega
              subst h2
              refine ⟨undef, M, w', .inr ⟨?_, rfl⟩, undef_vr, by rw [Tr.get_upd]; exact b2, by rw [Tr.get_upd]; exact b3⟩
              simp [execOp, ho, Instr.storeAt, hv, Instr.sureAddr, storeVar, run_sizeOf' hn, hsz, b1]
          · cases h
        · cases h
      · cases h
    · cases h
  · cases h

/-! ### addresses -/
def fieldE (P : Program) (s : TypeId) (f : Nat) : Option Field :=
  match P.underlying s with
  | some (.struct fs) => fs[f]?
  | _ => none
def evFieldAddr (P : Program) (s : TypeId) (f : Nat) : Value → Option OpR
  | .pointer (some ⟨i, o, none⟩) => match fieldE P s f with
    | some fd => match sizeT P fd.type with
      | some (_ + 1) => some (.pure (.pointer (some ⟨i, o + fd.offset, none⟩)))
      | _ => none
    | none => none
  | .pointer (some ⟨i, o, some 0⟩) => match fieldE P s f with
    | some fd => match sizeT P fd.type with
      | some (_ + 1) => some (.pure (.pointer (some ⟨i, o + fd.offset, some 0⟩)))
      | _ => none
    | none => none
  | _ => none
theorem evFieldAddr_ok {s : TypeId} {x : Operand} {f : Nat} {η : Operand → Value} {v : Value} (hv : VR M σ v (η x)) {r : OpR} (h : evFieldAddr P s f v = some r) {op : Oper} (ho : op.op = .fieldAddr s x f) :
    Snd M σ H w ((execOp η op).run P w) r := by
  unfold evFieldAddr at h
  split at h
  · rename_i i o
    split at h
    · rename_i fd hfd
      split at h
      · rename_i m hm
        cases h
        generalize hx : η x = va at hv
        cases hv with
        | ptr _ hp =>
          rename_i p
          unfold fieldE at hfd
          split at hfd
          · rename_i fs hfs
            refine ⟨.pointer (some ⟨p.b, p.s + (o + fd.offset), none⟩), .inl ?_, .ptr _ hp⟩
            simp [execOp, ho, Instr.fieldAt, hx, run_underlying' hfs, hfd, Instr.sureAddr, fieldPlace, run_sizeOf' hm, addr_add, Nat.add_assoc]
          · cases hfd
      · cases h
    · cases h
  · rename_i i o
    split at h
    · rename_i fd hfd
      split at h
      · rename_i m hm
        cases h
        generalize hx : η x = va at hv
        cases hv with
        | abs =>
          unfold fieldE at hfd
          split at hfd
          · rename_i fs hfs
            refine ⟨.pointer (some ⟨i, o + fd.offset, none⟩), .inl ?_, .abs _ _⟩
            simp [execOp, ho, Instr.fieldAt, hx, run_underlying' hfs, hfd, Instr.sureAddr, fieldPlace, run_sizeOf' hm, addr_add]
          · cases hfd
      · cases h
    · cases h
  · cases h
/-- an index that is in range -/
def idx : Value → Option Nat
  | .int _ (.ofNat n) => some n
  | _ => none
theorem idx_eq {v u : Value} {n : Nat} (h : idx v = some n) (hr : VR M σ v u) : ∃ k, u = .int k (n : Int) := by
  unfold idx at h
  split at h
  · cases h; cases hr; exact ⟨_, rfl⟩
  · cases h
def evIndexAddr (P : Program) (t : TypeId) (x ix : Value) : Option OpR :=
  match idx ix with
  | some n => match P.underlying t, x with
    | some (.array len e), .pointer (some ⟨i, o, none⟩) => match Nat.blt n len, sizeT P e with
      | true, some z => some (.pure (.pointer (some ⟨i, o + n * z, none⟩)))
      | _, _ => none
    | some (.array len e), .pointer (some ⟨i, o, some 0⟩) => match Nat.blt n len, sizeT P e with
      | true, some z => some (.pure (.pointer (some ⟨i, o + n * z, some 0⟩)))
      | _, _ => none
    | some (.slice e), .slice (some ⟨i, o, none⟩) len _ => match Nat.blt n len, sizeT P e with
      | true, some z => some (.pure (.pointer (some ⟨i, o + n * z, none⟩)))
      | _, _ => none
    | some (.slice e), .slice (some ⟨i, o, some z'⟩) len _ => match Nat.blt n len, sizeT P e with
      | true, some z => some (.pure (.pointer (some ⟨i, o + n * z, none⟩)))
      | _, _ => none
    | _, _ => none
  | none => none
theorem blt_lt {a b : Nat} (h : Nat.blt a b = true) : a < b := by simpa [Nat.blt_eq] using h
theorem evIndexAddr_ok {t : TypeId} {x ix : Operand} {η : Operand → Value} {v i : Value} (hv : VR M σ v (η x)) (hi : VR M σ i (η ix)) {r : OpR} (h : evIndexAddr P t v i = some r) {op : Oper} (ho : op.op = .indexAddr t x ix) :
    Snd M σ H w ((execOp η op).run P w) r := by
  unfold evIndexAddr at h
  split at h
  · rename_i n hn
    obtain ⟨k, hk⟩ := idx_eq hn hi
    generalize hx : η x = va at hv
    split at h
    · rename_i len e b o hu
      split at h
      · rename_i z hlt hz
        cases h
        cases hv with
        | ptr _ hp =>
          rename_i p
          refine ⟨.pointer (some ⟨p.b, p.s + (o + n * z), none⟩), .inl ?_, .ptr _ hp⟩
          have := blt_lt hlt
          simp [execOp, ho, Instr.indexAt, hk, hx, asIntOf, run_underlying' hu, Instr.sureAddr, run_sizeOf' hz, addr_add, this, Nat.add_assoc]
      · cases h
    · rename_i len e b o hu
      split at h
      · rename_i z hlt hz
        cases h
        cases hv with
        | abs =>
          refine ⟨.pointer (some ⟨b, o + n * z, none⟩), .inl ?_, .abs _ _⟩
          have := blt_lt hlt
          simp [execOp, ho, Instr.indexAt, hk, hx, asIntOf, run_underlying' hu, Instr.sureAddr, run_sizeOf' hz, addr_add, this]
      · cases h
    · rename_i e b o len c hu
      split at h
      · rename_i z hlt hz
        cases h
        cases hv with
        | slice _ _ _ hp =>
          rename_i p
          refine ⟨.pointer (some ⟨p.b, p.s + (o + n * z), none⟩), .inl ?_, .ptr _ hp⟩
          have := blt_lt hlt
          simp [execOp, ho, Instr.indexAt, hk, hx, asIntOf, run_underlying' hu, Instr.sureAddr, run_sizeOf' hz, addr_add, this, Nat.add_assoc]
      · cases h
    · rename_i e b o z' len c hu
      split at h
      · rename_i z hlt hz
        cases h
        cases hv with
        | grown _ _ _ _ c' hp =>
          rename_i p _ _ _
          refine ⟨.pointer (some ⟨p.b, p.s + (o + n * z), none⟩), .inl ?_, .ptr _ hp⟩
          have := blt_lt hlt
          simp [execOp, ho, Instr.indexAt, hk, hx, asIntOf, run_underlying' hu, Instr.sureAddr, run_sizeOf' hz, addr_add, this, Nat.add_assoc]
      · cases h
    · cases h
  · cases h
end
end Go.Proofs.Ytdhdaknfmpfegaa.Ev
end
section
set_option linter.unusedVariables false
set_option linter.unusedSectionVars false
set_option linter.unusedSimpArgs false
namespace Go.Proofs.Ytdhdaknfmpfegaa.Ev
open Go Go.RowKit
variable [Tab]

section
variable {P : Program} {M : Mp} {σ : Nat → Value} {H : Tr Blk} {w : World}
/-- one bound of a slice expression -/
def bnd (m : Nat) : Option Value → Nat → Option Nat
  | none, d => some d
  | some v, _ => match idx v with
    | some n => match Nat.ble n m with | true => some n | false => none
    | none => none
theorem bnd_run {m d n : Nat} {v : Value} {u : Value} (h : bnd m (some v) d = some n) (hr : VR M σ v u) (code : BoundsCode) (m' : Nat) (hm : m ≤ m') : (Instr.sliceBound u m' code).run P w = .ok n w ∧ n ≤ m := by
  simp only [bnd] at h
  split at h
  · rename_i k hk
    split at h
    · rename_i hle
      cases h
      obtain ⟨kk, rfl⟩ := idx_eq hk hr
      have : n ≤ m := Nat.le_of_ble_eq_true hle
      refine ⟨?_, this⟩
      simp only [Instr.sliceBound, asIntOf, Sem.run_bind, Sem.run_pure, Result.andThen_ok]
      rw [if_pos (by omega)]
      simp
    · cases h
  · cases h
/-- bounds lo and hi within l of m -/
def bounds (len cap : Nat) (lo hi : Option Value) : Option (Nat × Nat) :=
  match bnd cap hi len with
  | some h => match bnd h lo 0 with
    | some l => some (l, h)
    | none => none
  | none => none
theorem bounds_run {isSlice : Bool} {len cap cap' l h : Nat} {lo hi lo' hi' : Option Value} (e : bounds len cap lo hi = some (l, h)) (hl : len ≤ cap) (hc : cap ≤ cap')
    (hlo : (lo = none ∧ lo' = none) ∨ ∃ a b, lo = some a ∧ lo' = some b ∧ VR M σ a b) (hhi : (hi = none ∧ hi' = none) ∨ ∃ a b, hi = some a ∧ hi' = some b ∧ VR M σ a b) :
    (Instr.sliceBounds isSlice len cap' lo' hi' none).run P w = .ok (l, h, cap') w ∧ l ≤ h ∧ h ≤ cap := by
  unfold bounds at e
  split at e
  · rename_i h' hh'
    split at e
    · rename_i l' hl'
      cases e
      rcases hhi with ⟨rfl, rfl⟩ | ⟨a, b, rfl, rfl, hab⟩
      · simp only [bnd] at hh'; cases hh'
        rcases hlo with ⟨rfl, rfl⟩ | ⟨c, d, rfl, rfl, hcd⟩
        · simp only [bnd] at hl'; cases hl'
          exact ⟨by simp [Instr.sliceBounds], by omega, by omega⟩
        · obtain ⟨r1, r2⟩ := bnd_run (P := P) (w := w) hl' hcd .sliceB len (Nat.le_refl _)
          exact ⟨by simp [Instr.sliceBounds, r1], by omega, by omega⟩
      · obtain ⟨q1, q2⟩ := bnd_run (P := P) (w := w) hh' hab (if isSlice then .sliceAcap else .sliceAlen) cap' hc
        rcases hlo with ⟨rfl, rfl⟩ | ⟨c, d, rfl, rfl, hcd⟩
        · simp only [bnd] at hl'; cases hl'
          exact ⟨by cases isSlice <;> simp_all [Instr.sliceBounds], by omega, by omega⟩
        · obtain ⟨r1, r2⟩ := bnd_run (P := P) (w := w) hl' hcd .sliceB h (Nat.le_refl _)
          exact ⟨by cases isSlice <;> simp_all [Instr.sliceBounds], by omega, by omega⟩
    · cases e
  · cases e
def evSlice (P : Program) (t : TypeId) (x : Value) (lo hi : Option Value) : Option OpR :=
  match P.underlying t, x with
  | some (.array n e), .pointer (some ⟨i, o, none⟩) => match bounds n n lo hi, sizeT P e with
    | some (l, h), some z => some (.pure (.slice (some ⟨i, match Nat.beq n l with | true => o | false => o + l * z, none⟩) (h - l) (n - l)))
    | _, _ => none
  | some (.string), .string s => match bounds s.size s.size lo hi with
    | some (l, h) => some (.pure (.string (s.extract l h)))
    | none => none
  | some (.slice e), .slice none len cap => match Nat.ble len cap, bounds len cap lo hi, sizeT P e with
    | true, some (l, h), some z => some (.pure (.slice none (h - l) (cap - l)))
    | _, _, _ => none
  | some (.slice e), .slice (some ⟨i, o, none⟩) len cap => match Nat.ble len cap, bounds len cap lo hi, sizeT P e with
    | true, some (l, h), some z => some (.pure (.slice (some ⟨i, match Nat.beq cap l with | true => o | false => o + l * z, none⟩) (h - l) (cap - l)))
    | _, _, _ => none
  | some (.slice e), .slice (some ⟨i, o, some z'⟩) len m => match bounds len m lo hi, sizeT P e with
    | some (l, h), some z => match Nat.beq z z', Nat.beq l 0 || Nat.blt l m with
      | true, true => some (.pure (.slice (some ⟨i, o + l * z, some z⟩) (h - l) (m - l)))
      | true, false => some (.pure (.chan none))
      | _, _ => none
    | _, _ => none
  | _, _ => none
theorem evSlice_ok {t : TypeId} {x : Operand} {lo hi : Option Operand} {η : Operand → Value} {v : Value} {lo' hi' : Option Value} (hv : VR M σ v (η x))
    (hlo : (lo' = none ∧ lo.map η = none) ∨ ∃ a b, lo' = some a ∧ lo.map η = some b ∧ VR M σ a b) (hhi : (hi' = none ∧ hi.map η = none) ∨ ∃ a b, hi' = some a ∧ hi.map η = some b ∧ VR M σ a b)
    {r : OpR} (h : evSlice P t v lo' hi' = some r) {op : Oper} (ho : op.op = .slice t x lo hi none) :
    Snd M σ H w ((execOp η op).run P w) r := by
  unfold evSlice at h
  generalize hx : η x = va at hv
  split at h
  · rename_i n e i o hu
    split at h
    · rename_i l hh z hb hz
      cases h
      obtain ⟨b1, b2, b3⟩ := bounds_run (P := P) (w := w) (isSlice := false) hb (Nat.le_refl _) (Nat.le_refl _) hlo hhi
      cases hv with
      | ptr _ hp =>
        rename_i p
        refine ⟨_, .inl ?_, .slice _ _ _ hp⟩
        simp only [execOp, ho, Instr.sliceAt, hx, Instr.sureAddr, Sem.run_bind, run_underlying' hu, Result.andThen_ok, Option.map_none, Sem.run_pure, b1, run_sizeOf' hz, addr_add]
        by_cases e : n = l
        · subst e; simp
        · have : Nat.beq n l = false := Bool.eq_false_iff.2 fun q => e (Nat.eq_of_beq_eq_true q)
          simp [e, this, Nat.add_assoc]
    · cases h
  · rename_i s hu
    split at h
    · rename_i l hh hb
      cases h
      obtain ⟨b1, b2, b3⟩ := bounds_run (P := P) (w := w) (isSlice := false) hb (Nat.le_refl _) (Nat.le_refl _) hlo hhi
      cases hv with
      | str =>
        refine ⟨_, .inl ?_, .str _⟩
        simp [execOp, ho, Instr.sliceAt, Instr.slice, hx, run_underlying' hu, b1]
    · cases h
  · rename_i e len cap hu
    split at h
    · rename_i l hh z hle hb hz
      cases h
      obtain ⟨b1, b2, b3⟩ := bounds_run (P := P) (w := w) (isSlice := true) hb (Nat.le_of_ble_eq_true hle) (Nat.le_refl _) hlo hhi
      cases hv with
      | nils =>
        refine ⟨_, .inl ?_, .nils _ _⟩
        simp [execOp, ho, Instr.sliceAt, Instr.slice, hx, run_underlying' hu, b1, run_sizeOf' hz]
    · cases h
  · rename_i e i o len cap hu
    split at h
    · rename_i l hh z hle hb hz
      cases h
      obtain ⟨b1, b2, b3⟩ := bounds_run (P := P) (w := w) (isSlice := true) hb (Nat.le_of_ble_eq_true hle) (Nat.le_refl _) hlo hhi
      cases hv with
      | slice _ _ _ hp =>
        rename_i p
        refine ⟨_, .inl ?_, .slice _ _ _ hp⟩
        simp only [execOp, ho, Instr.sliceAt, Instr.slice, hx, Sem.run_bind, run_underlying' hu, Result.andThen_ok, Option.map_none, Sem.run_pure, b1, run_sizeOf' hz, addr_add, Option.map_some]
        by_cases e : cap = l
        · subst e; simp
        · have : Nat.beq cap l = false := Bool.eq_false_iff.2 fun q => e (Nat.eq_of_beq_eq_true q)
          simp [e, this, Nat.add_assoc]
    · cases h
  · rename_i e i o z' len m hu
    split at h
    · rename_i l hh z hb hz
      split at h
      · rename_i hzz hlm
        cases h
        have ez : z = z' := Nat.eq_of_beq_eq_true hzz
        subst ez
        cases hv with
        | grown _ _ _ _ c hp h1 h2 h3 =>
          rename_i p
          obtain ⟨b1, b2, b3⟩ := bounds_run (P := P) (w := w) (isSlice := true) hb h1 h2 hlo hhi
          have hlm' : l = 0 ∨ l < m := by
            rw [Bool.or_eq_true] at hlm
            exact hlm.imp Nat.eq_of_beq_eq_true blt_lt
          have hmul : l * z + (c - l) * z = c * z := by rw [← Nat.add_mul]; congr 1; omega
          refine ⟨.slice (some ⟨p.b, p.s + (o + l * z), none⟩) (hh - l) (c - l), .inl ?_, .grown _ _ _ _ _ hp (by omega) (by omega) (by omega)⟩
          simp only [execOp, ho, Instr.sliceAt, Instr.slice, hx, Sem.run_bind, run_underlying' hu, Result.andThen_ok, Option.map_none, Sem.run_pure, b1, run_sizeOf' hz, addr_add, Option.map_some]
          by_cases e : c = l
          · have e0 : l = 0 := by omega
            subst e0; simp [e]
          · simp [e, Nat.add_assoc]
      · rename_i hzz hlm
        cases h
        have ez : z = z' := Nat.eq_of_beq_eq_true hzz
        subst ez
        cases hv with
        | grown _ _ _ _ c hp h1 h2 h3 =>
          rename_i p
          obtain ⟨b1, b2, b3⟩ := bounds_run (P := P) (w := w) (isSlice := true) hb h1 h2 hlo hhi
          by_cases e : c = l
          · refine ⟨.slice (some ⟨p.b, p.s + o, none⟩) (hh - l) (c - l), .inl ?_, .any _ rfl⟩
            simp only [execOp, ho, Instr.sliceAt, Instr.slice, hx, Sem.run_bind, run_underlying' hu, Result.andThen_ok, Option.map_none, Sem.run_pure, b1, run_sizeOf' hz, addr_add, Option.map_some]
            simp [e]
          · refine ⟨.slice (some ⟨p.b, p.s + (o + l * z), none⟩) (hh - l) (c - l), .inl ?_, .any _ rfl⟩
            simp only [execOp, ho, Instr.sliceAt, Instr.slice, hx, Sem.run_bind, run_underlying' hu, Result.andThen_ok, Option.map_none, Sem.run_pure, b1, run_sizeOf' hz, addr_add, Option.map_some]
            simp [e, Nat.add_assoc]
      · cases h
    · cases h
  · cases h

/-- a slice expression with a maximum -/
def evSlice3 (P : Program) (t : TypeId) (x : Value) (lo : Option Value) (hi mx : Value) : Option OpR :=
  match P.underlying t, x with
  | some (.slice e), .slice (some ⟨i, o, none⟩) len cap => match bnd cap (some mx) 0, sizeT P e with
    | some m, some z => match bnd m (some hi) 0 with
      | some h => match bnd h lo 0 with
        | some l => some (.pure (.slice (some ⟨i, match Nat.beq m l with | true => o | false => o + l * z, none⟩) (h - l) (m - l)))
        | none => none
      | none => none
    | _, _ => none
  | some (.slice e), .slice (some ⟨i, o, some z'⟩) len cap => match bnd cap (some mx) 0, sizeT P e with
    | some m, some z => match bnd m (some hi) 0 with
      | some h => match bnd h lo 0 with
        | some l => some (.pure (.slice (some ⟨i, match Nat.beq m l with | true => o | false => o + l * z, none⟩) (h - l) (m - l)))
        | none => none
      | none => none
    | _, _ => none
  | _, _ => none
theorem bounds3_run {len cap cap' l h m : Nat} {lo lo' : Option Value} {hi hi' mx mx' : Value} (em : bnd cap (some mx) 0 = some m) (eh : bnd m (some hi) 0 = some h) (el : bnd h lo 0 = some l) (hc : cap ≤ cap')
    (hlo : (lo = none ∧ lo' = none) ∨ ∃ a b, lo = some a ∧ lo' = some b ∧ VR M σ a b) (hhi : VR M σ hi hi') (hmx : VR M σ mx mx') :
    (Instr.sliceBounds true len cap' lo' (some hi') (some mx')).run P w = .ok (l, h, m) w := by
  obtain ⟨r1, -⟩ := bnd_run (P := P) (w := w) em hmx .slice3Acap cap' hc
  obtain ⟨r2, -⟩ := bnd_run (P := P) (w := w) eh hhi .slice3B m (Nat.le_refl _)
  rcases hlo with ⟨rfl, rfl⟩ | ⟨c, d, rfl, rfl, hcd⟩
  · simp only [bnd] at el; cases el
    simp [Instr.sliceBounds, r1, r2]
  · obtain ⟨r3, -⟩ := bnd_run (P := P) (w := w) el hcd .slice3C h (Nat.le_refl _)
    simp [Instr.sliceBounds, r1, r2, r3]
theorem evSlice3_ok {t : TypeId} {x hi mx : Operand} {lo : Option Operand} {η : Operand → Value} {v hi' mx' : Value} {lo' : Option Value} (hv : VR M σ v (η x))
    (hlo : (lo' = none ∧ lo.map η = none) ∨ ∃ a b, lo' = some a ∧ lo.map η = some b ∧ VR M σ a b) (hhi : VR M σ hi' (η hi)) (hmx : VR M σ mx' (η mx))
    {r : OpR} (h : evSlice3 P t v lo' hi' mx' = some r) {op : Oper} (ho : op.op = .slice t x lo (some hi) (some mx)) :
    Snd M σ H w ((execOp η op).run P w) r := by
  unfold evSlice3 at h
  generalize hx : η x = va at hv
  split at h
  · rename_i e i o len cap hu
    split at h
    · rename_i m z em hz
      split at h
      · rename_i hh eh
        split at h
        · rename_i l el
          cases h
          cases hv with
          | slice _ _ _ hp =>
            rename_i p
            have b1 := bounds3_run (P := P) (w := w) (len := len) (cap' := cap) em eh el (Nat.le_refl _) hlo hhi hmx
            refine ⟨_, .inl ?_, .slice _ _ _ hp⟩
            simp only [execOp, ho, Instr.sliceAt, Instr.slice, hx, Sem.run_bind, run_underlying' hu, Result.andThen_ok, Option.map_some, Sem.run_pure, b1, run_sizeOf' hz, addr_add]
            by_cases e : m = l
            · subst e; simp
            · have : Nat.beq m l = false := Bool.eq_false_iff.2 fun q => e (Nat.eq_of_beq_eq_true q)
              simp [e, this, Nat.add_assoc]
        · cases h
      · cases h
    · cases h
  · rename_i e i o z' len cap hu
    split at h
    · rename_i m z em hz
      split at h
      · rename_i hh eh
        split at h
        · rename_i l el
          cases h
          cases hv with
          | grown _ _ _ _ c hp h1 h2 h3 =>
            rename_i p
            have b1 := bounds3_run (P := P) (w := w) (len := len) (cap' := c) em eh el h2 hlo hhi hmx
            refine ⟨_, .inl ?_, .slice _ _ _ hp⟩
            simp only [execOp, ho, Instr.sliceAt, Instr.slice, hx, Sem.run_bind, run_underlying' hu, Result.andThen_ok, Option.map_some, Sem.run_pure, b1, run_sizeOf' hz, addr_add]
            by_cases e : m = l
            · subst e; simp
            · have : Nat.beq m l = false := Bool.eq_false_iff.2 fun q => e (Nat.eq_of_beq_eq_true q)
              simp [e, this, Nat.add_assoc]
        · cases h
      · cases h
    · cases h
  · cases h
/-! ### parts of aggregates -/
def partE (P : Program) (t : TypeId) (cs : List Value) (off : Nat) : Option Value :=
  match aggT P t with
  | some true => match sizeT P t with
    | some n => some (.agg ⟨(cs.drop off).take n⟩)
    | none => none
  | some false => cs[off]?
  | none => none
theorem partE_run {t : TypeId} {cs vs : List Value} {off : Nat} {y : Value} (h : partE P t cs off = some y) (hr : VRs M σ cs vs) : ∃ u, (part t ⟨vs⟩ off).run P w = .ok u w ∧ VR M σ y u := by
  unfold partE at h
  split at h
  · rename_i ha
    split at h
    · rename_i n hn
      cases h
      refine ⟨.agg ⟨(vs.drop off).take n⟩, ?_, .agg ((hr.drop off).take n)⟩
      simp only [part, Sem.run_bind, run_isAgg' ha, Result.andThen_ok, if_true, run_sizeOf' hn, Sem.run_pure]
      congr 2
      apply Array.ext'
      simp [List.take_drop]
    · cases h
  · rename_i ha
    obtain ⟨v, hv, hr'⟩ := hr.get h
    exact ⟨v, by simp [part, run_isAgg' ha, hv], hr'⟩
  · cases h
def evField (P : Program) (t : TypeId) (f : Nat) : Value → Option OpR
  | .agg ⟨cs⟩ => match fieldE P t f with
    | some fd => pureO (partE P fd.type cs fd.offset)
    | none => none
  | _ => none
theorem evField_ok {t : TypeId} {x : Operand} {f : Nat} {η : Operand → Value} {v : Value} (hv : VR M σ v (η x)) {r : OpR} (h : evField P t f v = some r) {op : Oper} (ho : op.op = .field t x f) :
    Snd M σ H w ((execOp η op).run P w) r := by
  unfold evField at h
  split at h
  · rename_i cs
    split at h
    · rename_i fd hfd
      obtain ⟨y, hy, rfl⟩ := pureO_eq h
      generalize hx : η x = va at hv
      cases hv with
      | agg hr =>
        rename_i vs
        obtain ⟨u, h1, h2⟩ := partE_run (P := P) (w := w) hy hr
        unfold fieldE at hfd
        split at hfd
        · rename_i fs hfs
          exact ⟨u, .inl (by simp [execOp, ho, Instr.field, hx, run_underlying' hfs, hfd, asAgg, h1]), h2⟩
        · cases hfd
    · cases h
  · cases h
def evIndex (P : Program) (t : TypeId) (x ix : Value) : Option OpR :=
  match idx ix with
  | some n => match P.underlying t, x with
    | some (.array len e), .agg ⟨cs⟩ => match Nat.blt n len, sizeT P e with
      | true, some z => pureO (partE P e cs (n * z))
      | _, _ => none
    | some .string, .string s => match s[n]? with
      | some b => some (.pure (.int .u8 b.toNat))
      | none => none
    | _, _ => none
  | none => none
theorem evIndex_ok {t : TypeId} {x ix : Operand} {η : Operand → Value} {v i : Value} (hv : VR M σ v (η x)) (hi : VR M σ i (η ix)) {r : OpR} (h : evIndex P t v i = some r) {op : Oper} (ho : op.op = .index t x ix) :
    Snd M σ H w ((execOp η op).run P w) r := by
  unfold evIndex at h
  split at h
  · rename_i n hn
    obtain ⟨k, hk⟩ := idx_eq hn hi
    generalize hx : η x = va at hv
    split at h
    · rename_i len e cs hu
      split at h
      · rename_i z hlt hz
        obtain ⟨y, hy, rfl⟩ := pureO_eq h
        cases hv with
        | agg hr =>
          obtain ⟨u, h1, h2⟩ := partE_run (P := P) (w := w) hy hr
          have := blt_lt hlt
          exact ⟨u, .inl (by simp [execOp, ho, Instr.index, hk, hx, asIntOf, run_underlying' hu, run_sizeOf' hz, this, h1]), h2⟩
      · cases h
    · rename_i s hu
      split at h
      · rename_i b hb
        cases h
        cases hv with
        | str => exact ⟨_, .inl (by simp [execOp, ho, Instr.index, hk, hx, asIntOf, run_underlying' hu, hb]), .int _ _⟩
      · cases h
    · cases h
  · cases h
theorem evExtract_ok {x : Operand} {n : Nat} {η : Operand → Value} {cs : List Value} (hv : VR M σ (.tuple ⟨cs⟩) (η x)) {y : Value} (h : cs[n]? = some y) {op : Oper} (ho : op.op = .extract x n) :
    Snd M σ H w ((execOp η op).run P w) (.pure y) := by
  generalize hx : η x = va at hv
  cases hv with
  | tuple hr =>
    obtain ⟨v, h1, h2⟩ := hr.get h
    exact ⟨v, .inl (by simp [execOp, ho, Instr.extract, hx, h1]), h2⟩

/-! ### build -/
def fillE (place : Nat → Option (Nat × Nat)) (cells : List Value) : List (Nat × Value) → Option (List Value)
  | [] => some cells
  | (i, v) :: rest => match place i with
    | some (off, size) => match Nat.beq v.cells.toList.length size with
      | true => match splice cells off v.cells.toList with
        | some c => fillE place c rest
        | none => none
      | false => none
    | none => none
inductive VPs (M : Mp) (σ : Nat → Value) : List (Nat × Value) → List (Nat × Value) → Prop where
  | nil : VPs M σ [] []
  | cons (i : Nat) {x v : Value} {xs vs : List (Nat × Value)} (h : VR M σ x v) (h' : VPs M σ xs vs) : VPs M σ ((i, x) :: xs) ((i, v) :: vs)
theorem foldl_put : ∀ (ys : List Value) (off j : Nat) (cs : Array Value), off + j + ys.length ≤ cs.size →
    ((ys.zipIdx j).foldl (fun (cs : Array Value) (x : Value × Nat) => cs.setIfInBounds (off + x.2) x.1) cs).toList = cs.toList.take (off + j) ++ ys ++ cs.toList.drop (off + j + ys.length)
  | [], off, j, cs, _ => by simp
  | y :: ys, off, j, cs, h => by
    simp only [List.length_cons] at h
    have hlt : off + j < cs.size := by omega
    have hlt' : off + j < cs.toList.length := by simpa using hlt
    rw [List.zipIdx_cons, List.foldl_cons, foldl_put ys off (j + 1) _ (by simp; omega)]
    simp only [Array.setIfInBounds, hlt, dif_pos, Array.toList_set]
    rw [show off + (j + 1) = off + j + 1 by omega, List.take_succ_eq_append_getElem (by simpa using hlt)]
    simp only [List.getElem_set_self, List.take_set_of_le (Nat.le_refl _)]
    rw [List.drop_set_of_lt (by omega), show off + j + 1 + ys.length = off + j + (ys.length + 1) by omega]
    simp
theorem fillE_run {place : Nat → Option (Nat × Nat)} : ∀ {parts parts' : List (Nat × Value)} {cells r : List Value} {cs : Array Value}, fillE place cells parts = some r → VPs M σ parts parts' → VRs M σ cells cs.toList →
    ∃ r', Instr.fill place cs parts' = some r' ∧ VRs M σ r r'.toList
  | [], _, cells, r, cs, h, .nil, hc => by
    simp [fillE] at h; subst h; exact ⟨cs, by simp [Instr.fill], hc⟩
  | (i, x) :: parts, _, cells, r, cs, h, .cons _ (v := v) hv hvs, hc => by
    simp only [fillE] at h
    split at h
    · rename_i off size hpl
      split at h
      · rename_i hsz
        split at h
        · rename_i c hsp
          obtain ⟨e1, e2⟩ := splice_eq hsp
          have hl := hv.cells.length
          have hl2 := hc.length
          have h3 := Nat.eq_of_beq_eq_true hsz
          simp only [Array.length_toList] at hl hl2 h3 e1
          have hput := foldl_put v.cells.toList off 0 cs (by simp; omega)
          have hc' : VRs M σ c ((v.cells.toList.zipIdx 0).foldl (fun (cs : Array Value) (x : Value × Nat) => cs.setIfInBounds (off + x.2) x.1) cs).toList := by
            rw [hput, e2]
            have hlen : x.cells.toList.length = v.cells.toList.length := hv.cells.length
            rw [hlen]
            exact ((hc.take _).append hv.cells).append (hc.drop _)
          obtain ⟨r', f1, f2⟩ := fillE_run h hvs hc'
          refine ⟨r', ?_, f2⟩
          simp only [Instr.fill, hpl]
          rw [if_neg (by simp; omega)]
          rw [← f1]
          congr 1
          apply Array.ext'
          rw [hput]
          rw [← Array.foldl_toList]
          have := foldl_put v.cells.toList off 0 cs (by simp; omega)
          simpa using this
        · cases h
      · cases h
    · cases h
end
end Go.Proofs.Ytdhdaknfmpfegaa.Ev
end
section
set_option linter.unusedVariables false
set_option linter.unusedSectionVars false
set_option linter.unusedSimpArgs false
namespace Go.Proofs.Ytdhdaknfmpfegaa.Ev
open Go Go.RowKit
variable [Tab]

section
variable {P : Program} {M : Mp} {σ : Nat → Value} {H : Tr Blk} {w : World}
def placesE (P : Program) : List Field → Option (List (Nat × Nat))
  | [] => some []
  | f :: fs => match sizeT P f.type, placesE P fs with
    | some n, some r => some ((f.offset, n) :: r)
    | _, _ => none
theorem placesE_run : ∀ {fs : List Field} {r : List (Nat × Nat)}, placesE P fs = some r → (fs.mapM fun f => do pure (f.offset, ← sizeOf f.type) : Sem (List (Nat × Nat))).run P w = .ok r w
  | [], r, h => by simp [placesE] at h; subst h; simp
  | f :: fs, r, h => by
    simp only [placesE] at h
    split at h
    · rename_i n r' hn hr'
      cases h
      simp only [List.mapM_cons, Sem.run_bind, run_sizeOf' hn, Result.andThen_ok, Sem.run_pure]
      rw [placesE_run hr']
      simp
    · cases h
def opds (ρ : Operand → Option Value) : List Operand → Option (List Value)
  | [] => some []
  | x :: xs => match ρ x, opds ρ xs with
    | some v, some r => some (v :: r)
    | _, _ => none
theorem opds_vr {ρ : Operand → Option Value} {η : Operand → Value} (h : Opd M σ ρ η) : ∀ {xs : List Operand} {r : List Value}, opds ρ xs = some r → VRs M σ r (xs.map η)
  | [], r, e => by simp [opds] at e; subst e; exact .nil
  | x :: xs, r, e => by
    simp only [opds] at e
    split at e
    · rename_i v r' hv hr'
      cases e
      exact .cons (h _ _ hv) (opds_vr h hr')
    · cases e
def partsE (ρ : Operand → Option Value) : List (Nat × Operand) → Option (List (Nat × Value))
  | [] => some []
  | (i, x) :: xs => match ρ x, partsE ρ xs with
    | some v, some r => some ((i, v) :: r)
    | _, _ => none
theorem partsE_vr {ρ : Operand → Option Value} {η : Operand → Value} (h : Opd M σ ρ η) : ∀ {xs : List (Nat × Operand)} {r : List (Nat × Value)}, partsE ρ xs = some r → VPs M σ r (xs.map fun (i, x) => (i, η x))
  | [], r, e => by simp [partsE] at e; subst e; exact .nil
  | (i, x) :: xs, r, e => by
    simp only [partsE] at e
    split at e
    · rename_i v r' hv hr'
      cases e
      exact .cons i (h _ _ hv) (partsE_vr h hr')
    · cases e
def zeroE (P : Program) (t : TypeId) : Option (List Value) :=
  match P.info? t with
  | some i => match i.zero with
    | some z => match cleans z.cells.toList with
      | true => some z.cells.toList
      | false => none
    | none => none
  | none => none
theorem zeroE_run {t : TypeId} {l : List Value} (h : zeroE P t = some l) : ∃ z : Value, (zeroValue t).run P w = .ok z w ∧ z.cells.toList = l ∧ cleans l = true := by
  unfold zeroE at h
  split at h
  · rename_i i hi
    split at h
    · rename_i z hz
      split at h
      · rename_i hc
        cases h
        exact ⟨z, by simp [zeroValue, run_typeInfo' hi, hz], rfl, hc⟩
      · cases h
    · cases h
  · cases h
def evBuild (P : Program) (t : TypeId) (parts : List (Nat × Value)) : Option OpR :=
  match zeroE P t with
  | some z => match P.underlying t with
    | some (.struct fs) => match placesE P fs.toList with
      | some pl => match fillE (fun i => pl[i]?) z parts with
        | some c => some (.pure (.agg ⟨c⟩))
        | none => none
      | none => none
    | some (.array _ e) => match sizeT P e with
      | some n => match fillE (fun i => some (i * n, n)) z parts with
        | some c => some (.pure (.agg ⟨c⟩))
        | none => none
      | none => none
    | _ => none
  | none => none
theorem evBuild_ok {t : TypeId} {parts : Array (Nat × Operand)} {ρ : Operand → Option Value} {η : Operand → Value} (hη : Opd M σ ρ η) {ps : List (Nat × Value)} (hps : partsE ρ parts.toList = some ps)
    {r : OpR} (h : evBuild P t ps = some r) {op : Oper} (ho : op.op = .build t parts) : Snd M σ H w ((execOp η op).run P w) r := by
  have hp := partsE_vr hη hps
  unfold evBuild at h
  split at h
  · rename_i z hz
    obtain ⟨zv, z1, z2, z3⟩ := zeroE_run (P := P) (w := w) hz
    have hzr : VRs M σ z zv.cells.toList := by rw [z2]; exact VRs.of_clean _ z3
    split at h
    · rename_i fs hu
      split at h
      · rename_i pl hpl
        split at h
        · rename_i c hc
          cases h
          obtain ⟨r', f1, f2⟩ := fillE_run hc hp hzr
          refine ⟨.agg r', .inl ?_, .agg f2⟩
          have hm : (fs.mapM fun f => do pure (f.offset, ← sizeOf f.type) : Sem (Array (Nat × Nat))).run P w = .ok pl.toArray w := by
            rw [Array.mapM_eq_mapM_toList]
            rw [Sem.run_map, placesE_run hpl]
            rfl
          simp only [execOp, ho, Instr.build, Sem.run_bind, z1, Result.andThen_ok, run_underlying' hu, hm, Array.toList_map]
          have : (fun x : Nat => (pl.toArray)[x]?) = fun i => pl[i]? := by funext i; simp
          rw [this, f1]
          simp
        · cases h
      · cases h
    · rename_i n e hu
      split at h
      · rename_i m hm
        split at h
        · rename_i c hc
          cases h
          obtain ⟨r', f1, f2⟩ := fillE_run hc hp hzr
          refine ⟨.agg r', .inl ?_, .agg f2⟩
          simp only [execOp, ho, Instr.build, Sem.run_bind, z1, Result.andThen_ok, run_underlying' hu, run_sizeOf' hm, Array.toList_map]
          rw [f1]
          simp
        · cases h
      · cases h
    · cases h
  · cases h
def cyc (n : Nat) (z : List Value) : List Value := (List.range n).map fun i => z.getD (i % z.length) default
theorem cyc_eq (n : Nat) (z : Array Value) : ((Array.range n).map (fun i => z[i % z.size]!)).toList = cyc n z.toList := by
  simp [cyc, Array.toList_range]
  intro i _
  rw [getElem!_def]
  cases z[i % z.size]? <;> rfl
def evBuildSlice (P : Program) (t : TypeId) (len : Nat) (parts : List (Nat × Value)) : Option OpR :=
  match P.underlying t with
  | some (.slice e) => match sizeT P e, zeroE P e with
    | some n, some z => match Nat.ble (len * n) 16777216, Nat.blt 0 (len * n) with
      | true, true => match cleans (cyc (len * n) z) with
        | true => match fillE (fun i => some (i * n, n)) (cyc (len * n) z) parts with
          | some c => some (.new (.cells e c) (sliceTo len len))
          | none => none
        | false => none
      | true, false => match parts with
        | [] => some (.new (.cells e []) (sliceTo len len))
        | _ => none
      | _, _ => none
    | _, _ => none
  | _ => none
theorem evBuildSlice_ok {t : TypeId} {len : Nat} {parts : Array (Nat × Operand)} {ρ : Operand → Option Value} {η : Operand → Value} (hη : Opd M σ ρ η) {ps : List (Nat × Value)} (hps : partsE ρ parts.toList = some ps)
    {r : OpR} (h : evBuildSlice P t len ps = some r) {op : Oper} (ho : op.op = .buildSlice t len parts) : Snd M σ H w ((execOp η op).run P w) r := by
  have hp := partsE_vr hη hps
  unfold evBuildSlice at h
  split at h
  · rename_i e hu
    split at h
    · rename_i n z hn hz
      obtain ⟨zv, z1, z2, z3⟩ := zeroE_run (P := P) (w := w) hz
      split at h
      · rename_i hle hpos
        have hle' := Nat.le_of_ble_eq_true hle
        have hpos' := blt_lt hpos
        split at h
        · rename_i hcl
          split at h
          · rename_i c hc
            cases h
            have hcr : VRs M σ (cyc (len * n) z) ((Array.range (len * n)).map (fun i => zv.cells[i % zv.cells.size]!)).toList := by
              rw [cyc_eq, z2]; exact VRs.of_clean _ hcl
            obtain ⟨r', f1, f2⟩ := fillE_run hc hp hcr
            refine snd_row (vs := r'.toList) (u := .slice (some ⟨w.heap.size, 0, none⟩) len len) ?_ f2 (fun id M' hm => sliceTo_vr hm)
            simp only [execOp, ho, Instr.buildSlice, Sem.run_bind, run_underlying' hu, run_sizeOf' hn, Result.andThen_ok, Array.toList_map]
            rw [if_neg (by omega)]
            rw [if_neg (by omega)]
            simp only [Sem.run_bind, Sem.run_pure, z1, Result.andThen_ok]
            rw [f1]
            simp [newRow]
          · cases h
        · cases h
      · rename_i hle hpos
        have hle' := Nat.le_of_ble_eq_true hle
        have hpos' : len * n = 0 := by
          rcases Nat.eq_zero_or_pos (len * n) with h0 | h0
          · exact h0
          · rw [show Nat.blt 0 (len * n) = true by rw [Nat.blt_eq]; exact h0] at hpos; cases hpos
        split at h
        · cases h
          generalize hpl : parts.toList.map (fun x : Nat × Operand => match x with | (i, x) => (i, η x)) = l at hp
          cases hp
          refine snd_row (vs := []) (u := .slice (some ⟨w.heap.size, 0, none⟩) len len) ?_ .nil (fun id M' hm => sliceTo_vr hm)
          have hpe : parts = #[] := by
            have := congrArg List.length hpl
            simp at this
            exact this
          subst hpe
          simp only [execOp, ho, Instr.buildSlice, Sem.run_bind, run_underlying' hu, run_sizeOf' hn, Result.andThen_ok]
          rw [if_neg (by omega), if_pos hpos']
          simp [hpos', Instr.fill, newRow]
          congr 2
          apply Array.ext'
          simp [Array.toList_range]
        · cases h
      · cases h
    · cases h
  · cases h
def evMakeSlice (P : Program) (t : TypeId) (l c : Value) : Option OpR :=
  match P.underlying t, idx l, idx c with
  | some (.slice e), some ln, some cp => match P.info? e, sizeT P e, zeroE P e with
    | some i, some n, some z => match Nat.ble ln cp, Nat.blt cp 1073741824, Nat.ble (i.bytes * cp) 281474976710656, Nat.blt 0 n with
      | true, true, true, true => match cleans (cyc (cp * n) z) with
        | true => some (.new (.cells e (cyc (cp * n) z)) (sliceTo ln cp))
        | false => none
      | _, _, _, _ => none
    | _, _, _ => none
  | _, _, _ => none
theorem wrap_small {n : Nat} (h : n < 1073741824) : IntKind.i64.wrap (n : Int) = n := IntWalk.i64_in _ (by omega)
theorem evMakeSlice_ok {t : TypeId} {l c : Operand} {η : Operand → Value} {vl vc : Value} (hl : VR M σ vl (η l)) (hc : VR M σ vc (η c)) {r : OpR} (h : evMakeSlice P t vl vc = some r) {op : Oper} (ho : op.op = .makeSlice t l c) :
    Snd M σ H w ((execOp η op).run P w) r := by
  unfold evMakeSlice at h
  split at h
  · rename_i e ln cp hu il ic
    obtain ⟨kl, hkl⟩ := idx_eq il hl
    obtain ⟨kc, hkc⟩ := idx_eq ic hc
    split at h
    · rename_i i n z hi hn hz
      obtain ⟨zv, z1, z2, z3⟩ := zeroE_run (P := P) (w := w) hz
      split at h
      · rename_i a1 a2 a3 a4
        have a1 := Nat.le_of_ble_eq_true a1
        have a2 := blt_lt a2
        have a3 := Nat.le_of_ble_eq_true a3
        have a4 := blt_lt a4
        split at h
        · rename_i hcl
          cases h
          refine snd_row (vs := ((Array.range (cp * n)).map (fun i => zv.cells[i % zv.cells.size]!)).toList) (u := .slice (some ⟨w.heap.size, 0, none⟩) ln cp) ?_ (by rw [cyc_eq, z2]; exact VRs.of_clean _ hcl) (fun id M' hm => sliceTo_vr hm)
          simp only [execOp, ho, Instr.makeSlice, Sem.run_bind, run_underlying' hu, Result.andThen_ok, hkl, hkc, asInt, asIntOf, Sem.run_pure, run_typeInfo' hi, wrap_small a2, wrap_small (Nat.lt_of_le_of_lt a1 a2)]
          have e1 : ((cp : Int) < 0) = False := by simp
          have e2 : ((i.bytes : Int) * (cp : Int) > 2 ^ 48) = False := by simp only [eq_iff_iff, iff_false, gt_iff_lt, Int.not_lt]; norm_cast
          have e3 : ((ln : Int) < 0) = False := by simp
          have e4 : ((ln : Int) > (cp : Int)) = False := by simp; omega
          simp only [e1, e2, e3, e4]
          by_cases e5 : cp * n = 0
          · simp [run_sizeOf' hn, e5, newRow]
            congr 2
            apply Array.ext'
            simp [Array.toList_range]
          · simp [run_sizeOf' hn, e5, newRow, z1]
            congr 2
            apply Array.ext'
            simp [Array.toList_range]
        · cases h
      · cases h
    · cases h
  · cases h
end
end Go.Proofs.Ytdhdaknfmpfegaa.Ev
end
section
set_option linter.unusedVariables false
set_option linter.unusedSectionVars false
set_option linter.unusedSimpArgs false
namespace Go.Proofs.Ytdhdaknfmpfegaa.Ev
open Go Go.RowKit
variable [Tab]

section
variable {P : Program} {M : Mp} {σ : Nat → Value} {H : Tr Blk} {w : World}

/-! ### arithmetic -/
def inK (k : IntKind) (n : Int) : Bool :=
  match k with
  | .i64 => match n with
    | .ofNat m => Nat.ble m 9223372036854775807
    | .negSucc m => Nat.ble m 9223372036854775807
  | .u64 => match n with
    | .ofNat m => Nat.ble m 18446744073709551615
    | .negSucc _ => false
  | .u8 => match n with
    | .ofNat m => Nat.ble m 255
    | .negSucc _ => false
  | .u32 => match n with
    | .ofNat m => Nat.ble m 4294967295
    | .negSucc _ => false
  | _ => false
omit [Tab] in
theorem inK_wrap {k : IntKind} {n : Int} (h : inK k n = true) : k.wrap n = n := by
  cases k <;> simp only [inK, Bool.false_eq_true] at h
  all_goals (split at h; rename_i m; first | (have := Nat.le_of_ble_eq_true h; first | exact IntWalk.i64_in _ (by simp; omega) | exact IntWalk.u64_in _ (by simp; omega) | exact IntWalk.u8_in _ (by simp; omega) | exact IntWalk.u32_in _ (by simp; omega)) | skip)
  all_goals first | (cases h; done) | (have := Nat.le_of_ble_eq_true h; exact IntWalk.i64_in _ (by omega))
def kEq : IntKind → IntKind → Bool
  | .i8, .i8 | .i16, .i16 | .i32, .i32 | .i64, .i64 | .u8, .u8 | .u16, .u16 | .u32, .u32 | .u64, .u64 => true
  | _, _ => false
omit [Tab] in
theorem kEq_eq {a b : IntKind} (h : kEq a b = true) : a = b := by cases a <;> cases b <;> first | rfl | (simp [kEq] at h)
def iBeq : Int → Int → Bool
  | .ofNat a, .ofNat b => Nat.beq a b
  | .negSucc a, .negSucc b => Nat.beq a b
  | _, _ => false
def iBlt : Int → Int → Bool
  | .ofNat a, .ofNat b => Nat.blt a b
  | .negSucc a, .negSucc b => Nat.blt b a
  | .negSucc _, .ofNat _ => true
  | .ofNat _, .negSucc _ => false
omit [Tab] in
theorem iBeq_eq (a b : Int) : iBeq a b = (a == b) := by
  rw [Bool.eq_iff_iff]
  cases a <;> cases b <;> simp [iBeq] <;> omega
omit [Tab] in
theorem iBlt_eq (a b : Int) : iBlt a b = decide (a < b) := by
  rw [Bool.eq_iff_iff]
  cases a <;> cases b <;> simp [iBlt, Nat.blt_eq] <;> omega
omit [Tab] in
theorem not_blt (a b : Int) : (!iBlt b a) = decide (a ≤ b) := by rw [iBlt_eq, Bool.eq_iff_iff]; simp
/-- integers, without the model's monad -/
def intOp (op : BinOp) (k : IntKind) (a b : Int) : Option Value :=
  match op with
  | .add => forceI (a + b) fun r => match inK k r with | true => some (.int k r) | false => none
  | .sub => forceI (a - b) fun r => match inK k r with | true => some (.int k r) | false => none
  | .mul => forceI (a * b) fun r => match inK k r with | true => some (.int k r) | false => none
  | .eql => some (.bool (iBeq a b))
  | .neq => some (.bool (!iBeq a b))
  | .lss => some (.bool (iBlt a b))
  | .gtr => some (.bool (iBlt b a))
  | .leq => some (.bool (!iBlt b a))
  | .geq => some (.bool (!iBlt a b))
  | _ => none
omit [Tab] in
theorem intOp_run {op : BinOp} {k : IntKind} {a b : Int} {y : Value} (h : intOp op k a b = some y) (t : TypeId) (x z : Operand) :
    ((do eqGuard op t x z (.int k a) (.int k b); binOp op t (.int k a) (.int k b) : Sem Value)).run P w = .ok y w ∧ clean y = true := by
  unfold intOp at h
  simp only [forceI_eq] at h
  split at h
  case h_1 => split at h <;> simp at h; rename_i hk; subst h; simp [eqGuard, binOp, Op.intArith, inK_wrap hk, clean]
  case h_2 => split at h <;> simp at h; rename_i hk; subst h; simp [eqGuard, binOp, Op.intArith, inK_wrap hk, clean]
  case h_3 => split at h <;> simp at h; rename_i hk; subst h; simp [eqGuard, binOp, Op.intArith, inK_wrap hk, clean]
  case h_4 => cases h; simp [eqGuard, binOp, Op.intCmp, iBeq_eq, clean]
  case h_5 => cases h; simp [eqGuard, binOp, Op.intCmp, iBeq_eq, clean, bne]
  case h_6 => cases h; simp [eqGuard, binOp, Op.intCmp, iBlt_eq, clean]
  case h_7 => cases h; simp [eqGuard, binOp, Op.intCmp, iBlt_eq, clean]
  case h_8 => cases h; simp [eqGuard, binOp, Op.intCmp, not_blt, clean]
  case h_9 => cases h; simp [eqGuard, binOp, Op.intCmp, not_blt, clean]
  case h_10 => cases h
/-- what an operation on two whole numbers comes to -/
def resOp (op : BinOp) (k k' : IntKind) (a b : Int) : Option Int :=
  match op with
  | .shl => if b < 0 then none else some (k.wrap (a * 2 ^ (min b.toNat k.bits)))
  | .shr => if b < 0 then none else some (a.fdiv (2 ^ (min b.toNat k.bits)))
  | .add => if k = k' then some (k.wrap (a + b)) else none
  | .sub => if k = k' then some (k.wrap (a - b)) else none
  | .mul => if k = k' then some (k.wrap (a * b)) else none
  | .quo => if k = k' ∧ b ≠ 0 then some (k.wrap (a.tdiv b)) else none
  | .rem => if k = k' ∧ b ≠ 0 then some (a.tmod b) else none
  | .and => if k = k' then some (k.wrap (BitVec.ofInt k.bits a &&& BitVec.ofInt k.bits b).toNat) else none
  | .or => if k = k' then some (k.wrap (BitVec.ofInt k.bits a ||| BitVec.ofInt k.bits b).toNat) else none
  | .xor => if k = k' then some (k.wrap (BitVec.ofInt k.bits a ^^^ BitVec.ofInt k.bits b).toNat) else none
  | .andNot => if k = k' then some (k.wrap (BitVec.ofInt k.bits a &&& ~~~BitVec.ofInt k.bits b).toNat) else none
  | _ => none
omit [Tab] in
theorem resOp_run {P : Program} {op : BinOp} {k k' : IntKind} {a b r : Int} (h : resOp op k k' a b = some r) (t : TypeId) (x z : Operand) (w : World) :
    ((do eqGuard op t x z (.int k a) (.int k' b); binOp op t (.int k a) (.int k' b) : Sem Value)).run P w = .ok (.int k r) w := by
  unfold resOp at h
  cases op <;> simp only at h <;> (try (cases h; done)) <;> split at h <;> (try (cases h; done)) <;> rename_i hk <;> cases h
  all_goals first
    | (subst hk; simp [eqGuard, binOp, Op.intArith, Op.intBits])
    | (obtain ⟨rfl, hb⟩ := hk; simp [eqGuard, binOp, Op.intDiv, hb])
    | (simp [eqGuard, binOp, Op.shift, hk])
/-- bits, shifts and division, without the model's monad -/
def bitOp (op : BinOp) (k k' : IntKind) (a b : Int) : Option Value :=
  match resOp op k k' a b with
  | some r => forceI r fun r => some (.int k r)
  | none => none
omit [Tab] in
theorem bitOp_run {op : BinOp} {k k' : IntKind} {a b : Int} {y : Value} (h : bitOp op k k' a b = some y) (t : TypeId) (x z : Operand) :
    ((do eqGuard op t x z (.int k a) (.int k' b); binOp op t (.int k a) (.int k' b) : Sem Value)).run P w = .ok y w ∧ clean y = true := by
  unfold bitOp at h
  split at h
  · rename_i r hr
    rw [forceI_eq] at h
    cases h
    exact ⟨resOp_run hr t x z w, rfl⟩
  · cases h
/-- is it nil? -/
def nilQ (P : Program) (t : TypeId) (x y : Value) : Option Bool :=
  match P.underlying t, x, y with
  | some (.pointer _), .pointer none, .pointer (some _) => some false
  | some (.pointer _), .pointer (some _), .pointer none => some false
  | some (.slice _), .slice none _ _, .slice (some _) _ _ => some false
  | some (.slice _), .slice (some _) _ _, .slice none _ _ => some false
  | some (.map _ _), .map none, .map (some _) => some false
  | some (.map _ _), .map (some _), .map none => some false
  | some (.func _ _ _), .nilFunc, .func _ _ _ => some false
  | some (.func _ _ _), .func _ _ _, .nilFunc => some false
  | some (.interface _), .nilIface, .iface _ _ => some false
  | some (.interface _), .iface _ _, .nilIface => some false
  | _, _, _ => none
theorem nilQ_in {t : TypeId} {x y u v : Value} {b : Bool} (h : nilQ P t x y = some b) (hx : VR M σ x u) (hy : VR M σ y v) (d : Nat) : (Op.equalIn (d + 1) t u v).run P w = .ok b w := by
  unfold nilQ at h
  split at h <;> (try (cases h; done)) <;> rename_i hu <;> cases h <;> cases hx <;> cases hy <;> simp [Op.equalIn, run_underlying' hu]
theorem nilQ_guard {t : TypeId} {x y u v : Value} {b : Bool} (h : nilQ P t x y = some b) (hx : VR M σ x u) (hy : VR M σ y v) (op : BinOp) (a c : Operand) : (eqGuard op t a c u v).run P w = .ok () w := by
  unfold nilQ at h
  split at h <;> (try (cases h; done)) <;> cases hx <;> cases hy <;> cases op <;> rfl
theorem nilQ_run {t : TypeId} {x y u v : Value} {b : Bool} (h : nilQ P t x y = some b) (hx : VR M σ x u) (hy : VR M σ y v) : (Op.equal t u v).run P w = .ok b w ∧ ∀ op a c, (eqGuard op t a c u v).run P w = .ok () w :=
  ⟨nilQ_in h hx hy 9999, fun op a c => nilQ_guard h hx hy op a c⟩
/-- a pointer against itself -/
def samePtr (P : Program) (op : BinOp) (t : TypeId) (u v : Value) : Option Value :=
  match u, v with
  | .pointer (some ⟨i, o, none⟩), .pointer (some ⟨j, q, none⟩) => match Nat.beq i j && Nat.beq o q, P.underlying t with
    | true, some (.pointer te) => match P.info? te with
      | some _ => match op with
        | .eql => some (.bool true)
        | .neq => some (.bool false)
        | _ => none
      | none => none
    | _, _ => none
  | _, _ => none
theorem samePtr_ok {op : BinOp} {t : TypeId} {u v y a c : Value} (hu : VR M σ u a) (hv : VR M σ v c) (h : samePtr P op t u v = some y) (x z : Operand) : ((do eqGuard op t x z a c; binOp op t a c : Sem Value)).run P w = .ok y w ∧ clean y = true := by
  unfold samePtr at h
  split at h
  · rename_i i o j q
    split at h
    · rename_i te he ht
      split at h
      · rename_i inf hi
        rw [Bool.and_eq_true] at he
        have e1 := Nat.eq_of_beq_eq_true he.1
        have e2 := Nat.eq_of_beq_eq_true he.2
        subst e1; subst e2
        cases hu with
        | ptr _ hp =>
          rename_i p
          cases hv with
          | ptr _ hp' =>
            rename_i p'
            rw [hp] at hp'; cases hp'
            split at h
            · cases h
              refine ⟨?_, rfl⟩
              have := Go.run_eql_ptr_same (P := P) w (tp := t) (te := te) ⟨p.b, p.s + o, none⟩ ht hi
              rw [Sem.run_bind]
              show ((eqGuard .eql t x z (.pointer (some ⟨p.b, p.s + o, none⟩)) (.pointer (some ⟨p.b, p.s + o, none⟩))).run P w).andThen _ = _
              simp [eqGuard, this]
            · cases h
              refine ⟨?_, rfl⟩
              have := Go.Lib.run_neq_ptr_same (P := P) w (tp := t) (te := te) ⟨p.b, p.s + o, none⟩ ht hi
              rw [Sem.run_bind]
              simp [eqGuard, this]
            · cases h
      · cases h
    · cases h
  · cases h
def evBin (P : Program) (op : BinOp) (t : TypeId) (x z : Operand) (u v : Value) : Option Value :=
  match u, v with
  | .int k a, .int k' b => match kEq k k' with
    | true => match intOp op k a b with
      | some y => some y
      | none => match bitOp op k k' a b with
        | some y => some y
        | none => evClean P (do eqGuard op t x z u v; binOp op t u v)
    | false => match bitOp op k k' a b with
      | some y => some y
      | none => evClean P (do eqGuard op t x z u v; binOp op t u v)
  | _, _ => match clean u && clean v with
    | true => evClean P (do eqGuard op t x z u v; binOp op t u v)
    | false => match op, nilQ P t u v with
      | .eql, some b => some (.bool b)
      | .neq, some b => some (.bool (!b))
      | op, none => samePtr P op t u v
      | _, _ => none
theorem evClean_sound {s : Sem Value} {y : Value} (h : evClean P s = some y) : s.run P w = .ok y w ∧ clean y = true := by
  unfold evClean at h
  split at h
  · rename_i r hr
    split at h
    · rename_i hc; cases h; exact ⟨still_run s hr w, hc⟩
    · cases h
  · cases h
theorem evBin_ok {op : BinOp} {t t' : TypeId} {x z : Operand} {η : Operand → Value} {u v : Value} (hu : VR M σ u (η x)) (hv : VR M σ v (η z)) {y : Value} (h : evBin P op t x z u v = some y) {o : Oper} (ho : o.op = .binOp op t x z t') :
    Snd M σ H w ((execOp η o).run P w) (.pure y) := by
  have key : ∀ y, (do eqGuard op t x z (η x) (η z); binOp op t (η x) (η z) : Sem Value).run P w = .ok y w → (execOp η o).run P w = .ok (.value y) w := fun y h => by
    simp only [execOp, ho]
    rw [Sem.run_bind, h]
    simp
  have kc : evClean P (do eqGuard op t x z u v; binOp op t u v) = some y → clean u = true → clean v = true → Snd M σ H w ((execOp η o).run P w) (.pure y) := fun h c1 c2 => by
    obtain ⟨h1, h2⟩ := evClean_sound (w := w) h
    rw [← hu.eq_of_clean c1, ← hv.eq_of_clean c2] at h1
    exact ⟨y, .inl (key y h1), VR.of_clean _ h2⟩
  unfold evBin at h
  split at h
  · rename_i k a k' b
    split at h
    · rename_i hk
      split at h
      · rename_i y' hy
        cases h
        have := kEq_eq hk
        subst this
        obtain ⟨h1, h2⟩ := intOp_run (P := P) (w := w) hy t x z
        rw [← hu.eq_of_clean rfl, ← hv.eq_of_clean rfl] at h1
        exact ⟨y, .inl (key y h1), VR.of_clean _ h2⟩
      · split at h
        · rename_i y' hy
          cases h
          obtain ⟨h1, h2⟩ := bitOp_run (P := P) (w := w) hy t x z
          rw [← hu.eq_of_clean rfl, ← hv.eq_of_clean rfl] at h1
          exact ⟨y, .inl (key y h1), VR.of_clean _ h2⟩
        · exact kc h rfl rfl
    · split at h
      · rename_i y' hy
        cases h
        obtain ⟨h1, h2⟩ := bitOp_run (P := P) (w := w) hy t x z
        rw [← hu.eq_of_clean rfl, ← hv.eq_of_clean rfl] at h1
        exact ⟨y, .inl (key y h1), VR.of_clean _ h2⟩
      · exact kc h rfl rfl
  · split at h
    · rename_i hc
      rw [Bool.and_eq_true] at hc
      exact kc h hc.1 hc.2
    · split at h
      · rename_i b hb
        cases h
        obtain ⟨h1, h2⟩ := nilQ_run (P := P) (w := w) hb hu hv
        refine ⟨.bool b, .inl (key _ ?_), .bool _⟩
        have hbin : binOp .eql t (η x) (η z) = (do pure (.bool (← Op.equal t (η x) (η z)))) := by
          unfold nilQ at hb
          split at hb <;> (try (cases hb; done)) <;> generalize η x = a at * <;> generalize η z = c at * <;> cases hu <;> cases hv <;> rfl
        simp [h2, hbin, h1]
      · rename_i b hb
        cases h
        obtain ⟨h1, h2⟩ := nilQ_run (P := P) (w := w) hb hu hv
        refine ⟨.bool (!b), .inl (key _ ?_), .bool _⟩
        have hbin : binOp .neq t (η x) (η z) = (do pure (.bool (!(← Op.equal t (η x) (η z))))) := by
          unfold nilQ at hb
          split at hb <;> (try (cases hb; done)) <;> generalize η x = a at * <;> generalize η z = c at * <;> cases hu <;> cases hv <;> rfl
        simp [h2, hbin, h1]
      · obtain ⟨h1, h2⟩ := samePtr_ok (P := P) (w := w) hu hv h x z
        exact ⟨y, .inl (key _ h1), VR.of_clean _ h2⟩
      · cases h
end
end Go.Proofs.Ytdhdaknfmpfegaa.Ev
end
