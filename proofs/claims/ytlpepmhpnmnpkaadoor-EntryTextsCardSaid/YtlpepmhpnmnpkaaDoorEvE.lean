/-
  A checked evaluator, part E: more operations.
-/
import Derived.Test.YtlpepmhpnmnpkaaDoorEvD
set_option linter.unusedVariables false
set_option linter.unusedSectionVars false
set_option linter.unusedSimpArgs false
namespace Go.Proofs.YtlpepmhpnmnpkaaDoor.Ev
open Go Go.RowKit
variable [Tab]

section
variable {P : Program} {M : Mp} {σ : Nat → Value} {H : Tr Blk} {w : World}
/-- one bound of a slice expression -/
def bnd (m : Nat) : Option Value → Nat → Option Nat
  | none, d => some d
  | some v, _ => match idx v with
    | some n => match Nat.ble n m with | true => some n | false => none
    | none => none
theorem bnd_run {m d n : Nat} {v : Value} {u : Value} (h : bnd m (some v) d = some n) (hr : VR M σ v u) (code : BoundsCode) (m' : Nat) (hm : m ≤ m') : (Instr.sliceBound u m' code).run P w = .ok n w ∧ n ≤ m := by
  simp only [bnd] at h
  split at h
  · rename_i k hk
    split at h
    · rename_i hle
      cases h
      obtain ⟨kk, rfl⟩ := idx_eq hk hr
      have : n ≤ m := Nat.le_of_ble_eq_true hle
      refine ⟨?_, this⟩
      simp only [Instr.sliceBound, asIntOf, Sem.run_bind, Sem.run_pure, Result.andThen_ok]
      rw [if_pos (by omega)]
      simp
    · cases h
  · cases h
/-- bounds lo and hi within l of m -/
def bounds (len cap : Nat) (lo hi : Option Value) : Option (Nat × Nat) :=
  match bnd cap hi len with
  | some h => match bnd h lo 0 with
    | some l => some (l, h)
    | none => none
  | none => none
theorem bounds_run {isSlice : Bool} {len cap cap' l h : Nat} {lo hi lo' hi' : Option Value} (e : bounds len cap lo hi = some (l, h)) (hl : len ≤ cap) (hc : cap ≤ cap')
    (hlo : (lo = none ∧ lo' = none) ∨ ∃ a b, lo = some a ∧ lo' = some b ∧ VR M σ a b) (hhi : (hi = none ∧ hi' = none) ∨ ∃ a b, hi = some a ∧ hi' = some b ∧ VR M σ a b) :
    (Instr.sliceBounds isSlice len cap' lo' hi' none).run P w = .ok (l, h, cap') w ∧ l ≤ h ∧ h ≤ cap := by
  unfold bounds at e
  split at e
  · rename_i h' hh'
    split at e
    · rename_i l' hl'
      cases e
      rcases hhi with ⟨rfl, rfl⟩ | ⟨a, b, rfl, rfl, hab⟩
      · simp only [bnd] at hh'; cases hh'
        rcases hlo with ⟨rfl, rfl⟩ | ⟨c, d, rfl, rfl, hcd⟩
        · simp only [bnd] at hl'; cases hl'
          exact ⟨by simp [Instr.sliceBounds], by omega, by omega⟩
        · obtain ⟨r1, r2⟩ := bnd_run (P := P) (w := w) hl' hcd .sliceB len (Nat.le_refl _)
          exact ⟨by simp [Instr.sliceBounds, r1], by omega, by omega⟩
      · obtain ⟨q1, q2⟩ := bnd_run (P := P) (w := w) hh' hab (if isSlice then .sliceAcap else .sliceAlen) cap' hc
        rcases hlo with ⟨rfl, rfl⟩ | ⟨c, d, rfl, rfl, hcd⟩
        · simp only [bnd] at hl'; cases hl'
          exact ⟨by cases isSlice <;> simp_all [Instr.sliceBounds], by omega, by omega⟩
        · obtain ⟨r1, r2⟩ := bnd_run (P := P) (w := w) hl' hcd .sliceB h (Nat.le_refl _)
          exact ⟨by cases isSlice <;> simp_all [Instr.sliceBounds], by omega, by omega⟩
    · cases e
  · cases e
def evSlice (P : Program) (t : TypeId) (x : Value) (lo hi : Option Value) : Option OpR :=
  match P.underlying t, x with
  | some (.array n e), .pointer (some ⟨i, o, none⟩) => match bounds n n lo hi, sizeT P e with
    | some (l, h), some z => some (.pure (.slice (some ⟨i, match Nat.beq n l with | true => o | false => o + l * z, none⟩) (h - l) (n - l)))
    | _, _ => none
  | some (.string), .string s => match bounds s.size s.size lo hi with
    | some (l, h) => some (.pure (.string (s.extract l h)))
    | none => none
  | some (.slice e), .slice none len cap => match Nat.ble len cap, bounds len cap lo hi, sizeT P e with
    | true, some (l, h), some z => some (.pure (.slice none (h - l) (cap - l)))
    | _, _, _ => none
  | some (.slice e), .slice (some ⟨i, o, none⟩) len cap => match Nat.ble len cap, bounds len cap lo hi, sizeT P e with
    | true, some (l, h), some z => some (.pure (.slice (some ⟨i, match Nat.beq cap l with | true => o | false => o + l * z, none⟩) (h - l) (cap - l)))
    | _, _, _ => none
  | some (.slice e), .slice (some ⟨i, o, some z'⟩) len m => match bounds len m lo hi, sizeT P e with
    | some (l, h), some z => match Nat.beq z z', Nat.beq l 0 || Nat.blt l m with
      | true, true => some (.pure (.slice (some ⟨i, o + l * z, some z⟩) (h - l) (m - l)))
      | _, _ => none
    | _, _ => none
  | _, _ => none
theorem evSlice_ok {t : TypeId} {x : Operand} {lo hi : Option Operand} {η : Operand → Value} {v : Value} {lo' hi' : Option Value} (hv : VR M σ v (η x))
    (hlo : (lo' = none ∧ lo.map η = none) ∨ ∃ a b, lo' = some a ∧ lo.map η = some b ∧ VR M σ a b) (hhi : (hi' = none ∧ hi.map η = none) ∨ ∃ a b, hi' = some a ∧ hi.map η = some b ∧ VR M σ a b)
    {r : OpR} (h : evSlice P t v lo' hi' = some r) {op : Oper} (ho : op.op = .slice t x lo hi none) :
    Snd M σ H w ((execOp η op).run P w) r := by
  unfold evSlice at h
  generalize hx : η x = va at hv
  split at h
  · rename_i n e i o hu
    split at h
    · rename_i l hh z hb hz
      cases h
      obtain ⟨b1, b2, b3⟩ := bounds_run (P := P) (w := w) (isSlice := false) hb (Nat.le_refl _) (Nat.le_refl _) hlo hhi
      cases hv with
      | ptr _ hp =>
        rename_i p
        refine ⟨_, .inl ?_, .slice _ _ _ hp⟩
        simp only [execOp, ho, Instr.sliceAt, hx, Instr.sureAddr, Sem.run_bind, run_underlying' hu, Result.andThen_ok, Option.map_none, Sem.run_pure, b1, run_sizeOf' hz, addr_add]
        by_cases e : n = l
        · subst e; simp
        · have : Nat.beq n l = false := Bool.eq_false_iff.2 fun q => e (Nat.eq_of_beq_eq_true q)
          simp [e, this, Nat.add_assoc]
    · cases h
  · rename_i s hu
    split at h
    · rename_i l hh hb
      cases h
      obtain ⟨b1, b2, b3⟩ := bounds_run (P := P) (w := w) (isSlice := false) hb (Nat.le_refl _) (Nat.le_refl _) hlo hhi
      cases hv with
      | str =>
        refine ⟨_, .inl ?_, .str _⟩
        simp [execOp, ho, Instr.sliceAt, Instr.slice, hx, run_underlying' hu, b1]
    · cases h
  · rename_i e len cap hu
    split at h
    · rename_i l hh z hle hb hz
      cases h
      obtain ⟨b1, b2, b3⟩ := bounds_run (P := P) (w := w) (isSlice := true) hb (Nat.le_of_ble_eq_true hle) (Nat.le_refl _) hlo hhi
      cases hv with
      | nils =>
        refine ⟨_, .inl ?_, .nils _ _⟩
        simp [execOp, ho, Instr.sliceAt, Instr.slice, hx, run_underlying' hu, b1, run_sizeOf' hz]
    · cases h
  · rename_i e i o len cap hu
    split at h
    · rename_i l hh z hle hb hz
      cases h
      obtain ⟨b1, b2, b3⟩ := bounds_run (P := P) (w := w) (isSlice := true) hb (Nat.le_of_ble_eq_true hle) (Nat.le_refl _) hlo hhi
      cases hv with
      | slice _ _ _ hp =>
        rename_i p
        refine ⟨_, .inl ?_, .slice _ _ _ hp⟩
        simp only [execOp, ho, Instr.sliceAt, Instr.slice, hx, Sem.run_bind, run_underlying' hu, Result.andThen_ok, Option.map_none, Sem.run_pure, b1, run_sizeOf' hz, addr_add, Option.map_some]
        by_cases e : cap = l
        · subst e; simp
        · have : Nat.beq cap l = false := Bool.eq_false_iff.2 fun q => e (Nat.eq_of_beq_eq_true q)
          simp [e, this, Nat.add_assoc]
    · cases h
  · rename_i e i o z' len m hu
    split at h
    · rename_i l hh z hb hz
      split at h
      · rename_i hzz hlm
        cases h
        have ez : z = z' := Nat.eq_of_beq_eq_true hzz
        subst ez
        cases hv with
        | grown _ _ _ _ c hp h1 h2 h3 =>
          rename_i p
          obtain ⟨b1, b2, b3⟩ := bounds_run (P := P) (w := w) (isSlice := true) hb h1 h2 hlo hhi
          have hlm' : l = 0 ∨ l < m := by
            rw [Bool.or_eq_true] at hlm
            exact hlm.imp Nat.eq_of_beq_eq_true blt_lt
          have hmul : l * z + (c - l) * z = c * z := by rw [← Nat.add_mul]; congr 1; omega
          refine ⟨.slice (some ⟨p.b, p.s + (o + l * z), none⟩) (hh - l) (c - l), .inl ?_, .grown _ _ _ _ _ hp (by omega) (by omega) (by omega)⟩
          simp only [execOp, ho, Instr.sliceAt, Instr.slice, hx, Sem.run_bind, run_underlying' hu, Result.andThen_ok, Option.map_none, Sem.run_pure, b1, run_sizeOf' hz, addr_add, Option.map_some]
          by_cases e : c = l
          · have e0 : l = 0 := by omega
            subst e0; simp [e]
          · simp [e, Nat.add_assoc]
      · cases h
    · cases h
  · cases h

/-- a slice expression with a maximum -/
def evSlice3 (P : Program) (t : TypeId) (x : Value) (lo : Option Value) (hi mx : Value) : Option OpR :=
  match P.underlying t, x with
  | some (.slice e), .slice (some ⟨i, o, none⟩) len cap => match bnd cap (some mx) 0, sizeT P e with
    | some m, some z => match bnd m (some hi) 0 with
      | some h => match bnd h lo 0 with
        | some l => some (.pure (.slice (some ⟨i, match Nat.beq m l with | true => o | false => o + l * z, none⟩) (h - l) (m - l)))
        | none => none
      | none => none
    | _, _ => none
  | some (.slice e), .slice (some ⟨i, o, some z'⟩) len cap => match bnd cap (some mx) 0, sizeT P e with
    | some m, some z => match bnd m (some hi) 0 with
      | some h => match bnd h lo 0 with
        | some l => some (.pure (.slice (some ⟨i, match Nat.beq m l with | true => o | false => o + l * z, none⟩) (h - l) (m - l)))
        | none => none
      | none => none
    | _, _ => none
  | _, _ => none
theorem bounds3_run {len cap cap' l h m : Nat} {lo lo' : Option Value} {hi hi' mx mx' : Value} (em : bnd cap (some mx) 0 = some m) (eh : bnd m (some hi) 0 = some h) (el : bnd h lo 0 = some l) (hc : cap ≤ cap')
    (hlo : (lo = none ∧ lo' = none) ∨ ∃ a b, lo = some a ∧ lo' = some b ∧ VR M σ a b) (hhi : VR M σ hi hi') (hmx : VR M σ mx mx') :
    (Instr.sliceBounds true len cap' lo' (some hi') (some mx')).run P w = .ok (l, h, m) w := by
  obtain ⟨r1, -⟩ := bnd_run (P := P) (w := w) em hmx .slice3Acap cap' hc
  obtain ⟨r2, -⟩ := bnd_run (P := P) (w := w) eh hhi .slice3B m (Nat.le_refl _)
  rcases hlo with ⟨rfl, rfl⟩ | ⟨c, d, rfl, rfl, hcd⟩
  · simp only [bnd] at el; cases el
    simp [Instr.sliceBounds, r1, r2]
  · obtain ⟨r3, -⟩ := bnd_run (P := P) (w := w) el hcd .slice3C h (Nat.le_refl _)
    simp [Instr.sliceBounds, r1, r2, r3]
theorem evSlice3_ok {t : TypeId} {x hi mx : Operand} {lo : Option Operand} {η : Operand → Value} {v hi' mx' : Value} {lo' : Option Value} (hv : VR M σ v (η x))
    (hlo : (lo' = none ∧ lo.map η = none) ∨ ∃ a b, lo' = some a ∧ lo.map η = some b ∧ VR M σ a b) (hhi : VR M σ hi' (η hi)) (hmx : VR M σ mx' (η mx))
    {r : OpR} (h : evSlice3 P t v lo' hi' mx' = some r) {op : Oper} (ho : op.op = .slice t x lo (some hi) (some mx)) :
    Snd M σ H w ((execOp η op).run P w) r := by
  unfold evSlice3 at h
  generalize hx : η x = va at hv
  split at h
  · rename_i e i o len cap hu
    split at h
    · rename_i m z em hz
      split at h
      · rename_i hh eh
        split at h
        · rename_i l el
          cases h
          cases hv with
          | slice _ _ _ hp =>
            rename_i p
            have b1 := bounds3_run (P := P) (w := w) (len := len) (cap' := cap) em eh el (Nat.le_refl _) hlo hhi hmx
            refine ⟨_, .inl ?_, .slice _ _ _ hp⟩
            simp only [execOp, ho, Instr.sliceAt, Instr.slice, hx, Sem.run_bind, run_underlying' hu, Result.andThen_ok, Option.map_some, Sem.run_pure, b1, run_sizeOf' hz, addr_add]
            by_cases e : m = l
            · subst e; simp
            · have : Nat.beq m l = false := Bool.eq_false_iff.2 fun q => e (Nat.eq_of_beq_eq_true q)
              simp [e, this, Nat.add_assoc]
        · cases h
      · cases h
    · cases h
  · rename_i e i o z' len cap hu
    split at h
    · rename_i m z em hz
      split at h
      · rename_i hh eh
        split at h
        · rename_i l el
          cases h
          cases hv with
          | grown _ _ _ _ c hp h1 h2 h3 =>
            rename_i p
            have b1 := bounds3_run (P := P) (w := w) (len := len) (cap' := c) em eh el h2 hlo hhi hmx
            refine ⟨_, .inl ?_, .slice _ _ _ hp⟩
            simp only [execOp, ho, Instr.sliceAt, Instr.slice, hx, Sem.run_bind, run_underlying' hu, Result.andThen_ok, Option.map_some, Sem.run_pure, b1, run_sizeOf' hz, addr_add]
            by_cases e : m = l
            · subst e; simp
            · have : Nat.beq m l = false := Bool.eq_false_iff.2 fun q => e (Nat.eq_of_beq_eq_true q)
              simp [e, this, Nat.add_assoc]
        · cases h
      · cases h
    · cases h
  · cases h
/-! ### parts of aggregates -/
def partE (P : Program) (t : TypeId) (cs : List Value) (off : Nat) : Option Value :=
  match aggT P t with
  | some true => match sizeT P t with
    | some n => some (.agg ⟨(cs.drop off).take n⟩)
    | none => none
  | some false => cs[off]?
  | none => none
theorem partE_run {t : TypeId} {cs vs : List Value} {off : Nat} {y : Value} (h : partE P t cs off = some y) (hr : VRs M σ cs vs) : ∃ u, (part t ⟨vs⟩ off).run P w = .ok u w ∧ VR M σ y u := by
  unfold partE at h
  split at h
  · rename_i ha
    split at h
    · rename_i n hn
      cases h
      refine ⟨.agg ⟨(vs.drop off).take n⟩, ?_, .agg ((hr.drop off).take n)⟩
      simp only [part, Sem.run_bind, run_isAgg' ha, Result.andThen_ok, if_true, run_sizeOf' hn, Sem.run_pure]
      congr 2
      apply Array.ext'
      simp [List.take_drop]
    · cases h
  · rename_i ha
    obtain ⟨v, hv, hr'⟩ := hr.get h
    exact ⟨v, by simp [part, run_isAgg' ha, hv], hr'⟩
  · cases h
def evField (P : Program) (t : TypeId) (f : Nat) : Value → Option OpR
  | .agg ⟨cs⟩ => match fieldE P t f with
    | some fd => pureO (partE P fd.type cs fd.offset)
    | none => none
  | _ => none
theorem evField_ok {t : TypeId} {x : Operand} {f : Nat} {η : Operand → Value} {v : Value} (hv : VR M σ v (η x)) {r : OpR} (h : evField P t f v = some r) {op : Oper} (ho : op.op = .field t x f) :
    Snd M σ H w ((execOp η op).run P w) r := by
  unfold evField at h
  split at h
  · rename_i cs
    split at h
    · rename_i fd hfd
      obtain ⟨y, hy, rfl⟩ := pureO_eq h
      generalize hx : η x = va at hv
      cases hv with
      | agg hr =>
        rename_i vs
        obtain ⟨u, h1, h2⟩ := partE_run (P := P) (w := w) hy hr
        unfold fieldE at hfd
        split at hfd
        · rename_i fs hfs
          exact ⟨u, .inl (by simp [execOp, ho, Instr.field, hx, run_underlying' hfs, hfd, asAgg, h1]), h2⟩
        · cases hfd
    · cases h
  · cases h
def evIndex (P : Program) (t : TypeId) (x ix : Value) : Option OpR :=
  match idx ix with
  | some n => match P.underlying t, x with
    | some (.array len e), .agg ⟨cs⟩ => match Nat.blt n len, sizeT P e with
      | true, some z => pureO (partE P e cs (n * z))
      | _, _ => none
    | some .string, .string s => match s[n]? with
      | some b => some (.pure (.int .u8 b.toNat))
      | none => none
    | _, _ => none
  | none => none
theorem evIndex_ok {t : TypeId} {x ix : Operand} {η : Operand → Value} {v i : Value} (hv : VR M σ v (η x)) (hi : VR M σ i (η ix)) {r : OpR} (h : evIndex P t v i = some r) {op : Oper} (ho : op.op = .index t x ix) :
    Snd M σ H w ((execOp η op).run P w) r := by
  unfold evIndex at h
  split at h
  · rename_i n hn
    obtain ⟨k, hk⟩ := idx_eq hn hi
    generalize hx : η x = va at hv
    split at h
    · rename_i len e cs hu
      split at h
      · rename_i z hlt hz
        obtain ⟨y, hy, rfl⟩ := pureO_eq h
        cases hv with
        | agg hr =>
          obtain ⟨u, h1, h2⟩ := partE_run (P := P) (w := w) hy hr
          have := blt_lt hlt
          exact ⟨u, .inl (by simp [execOp, ho, Instr.index, hk, hx, asIntOf, run_underlying' hu, run_sizeOf' hz, this, h1]), h2⟩
      · cases h
    · rename_i s hu
      split at h
      · rename_i b hb
        cases h
        cases hv with
        | str => exact ⟨_, .inl (by simp [execOp, ho, Instr.index, hk, hx, asIntOf, run_underlying' hu, hb]), .int _ _⟩
      · cases h
    · cases h
  · cases h
theorem evExtract_ok {x : Operand} {n : Nat} {η : Operand → Value} {cs : List Value} (hv : VR M σ (.tuple ⟨cs⟩) (η x)) {y : Value} (h : cs[n]? = some y) {op : Oper} (ho : op.op = .extract x n) :
    Snd M σ H w ((execOp η op).run P w) (.pure y) := by
  generalize hx : η x = va at hv
  cases hv with
  | tuple hr =>
    obtain ⟨v, h1, h2⟩ := hr.get h
    exact ⟨v, .inl (by simp [execOp, ho, Instr.extract, hx, h1]), h2⟩

/-! ### build -/
def fillE (place : Nat → Option (Nat × Nat)) (cells : List Value) : List (Nat × Value) → Option (List Value)
  | [] => some cells
  | (i, v) :: rest => match place i with
    | some (off, size) => match Nat.beq v.cells.toList.length size with
      | true => match splice cells off v.cells.toList with
        | some c => fillE place c rest
        | none => none
      | false => none
    | none => none
inductive VPs (M : Mp) (σ : Nat → Value) : List (Nat × Value) → List (Nat × Value) → Prop where
  | nil : VPs M σ [] []
  | cons (i : Nat) {x v : Value} {xs vs : List (Nat × Value)} (h : VR M σ x v) (h' : VPs M σ xs vs) : VPs M σ ((i, x) :: xs) ((i, v) :: vs)
theorem foldl_put : ∀ (ys : List Value) (off j : Nat) (cs : Array Value), off + j + ys.length ≤ cs.size →
    ((ys.zipIdx j).foldl (fun (cs : Array Value) (x : Value × Nat) => cs.setIfInBounds (off + x.2) x.1) cs).toList = cs.toList.take (off + j) ++ ys ++ cs.toList.drop (off + j + ys.length)
  | [], off, j, cs, _ => by simp
  | y :: ys, off, j, cs, h => by
    simp only [List.length_cons] at h
    have hlt : off + j < cs.size := by omega
    have hlt' : off + j < cs.toList.length := by simpa using hlt
    rw [List.zipIdx_cons, List.foldl_cons, foldl_put ys off (j + 1) _ (by simp; omega)]
    simp only [Array.setIfInBounds, hlt, dif_pos, Array.toList_set]
    rw [show off + (j + 1) = off + j + 1 by omega, List.take_succ_eq_append_getElem (by simpa using hlt)]
    simp only [List.getElem_set_self, List.take_set_of_le (Nat.le_refl _)]
    rw [List.drop_set_of_lt (by omega), show off + j + 1 + ys.length = off + j + (ys.length + 1) by omega]
    simp
theorem fillE_run {place : Nat → Option (Nat × Nat)} : ∀ {parts parts' : List (Nat × Value)} {cells r : List Value} {cs : Array Value}, fillE place cells parts = some r → VPs M σ parts parts' → VRs M σ cells cs.toList →
    ∃ r', Instr.fill place cs parts' = some r' ∧ VRs M σ r r'.toList
  | [], _, cells, r, cs, h, .nil, hc => by
    simp [fillE] at h; subst h; exact ⟨cs, by simp [Instr.fill], hc⟩
  | (i, x) :: parts, _, cells, r, cs, h, .cons _ (v := v) hv hvs, hc => by
    simp only [fillE] at h
    split at h
    · rename_i off size hpl
      split at h
      · rename_i hsz
        split at h
        · rename_i c hsp
          obtain ⟨e1, e2⟩ := splice_eq hsp
          have hl := hv.cells.length
          have hl2 := hc.length
          have h3 := Nat.eq_of_beq_eq_true hsz
          simp only [Array.length_toList] at hl hl2 h3 e1
          have hput := foldl_put v.cells.toList off 0 cs (by simp; omega)
          have hc' : VRs M σ c ((v.cells.toList.zipIdx 0).foldl (fun (cs : Array Value) (x : Value × Nat) => cs.setIfInBounds (off + x.2) x.1) cs).toList := by
            rw [hput, e2]
            have hlen : x.cells.toList.length = v.cells.toList.length := hv.cells.length
            rw [hlen]
            exact ((hc.take _).append hv.cells).append (hc.drop _)
          obtain ⟨r', f1, f2⟩ := fillE_run h hvs hc'
          refine ⟨r', ?_, f2⟩
          simp only [Instr.fill, hpl]
          rw [if_neg (by simp; omega)]
          rw [← f1]
          congr 1
          apply Array.ext'
          rw [hput]
          rw [← Array.foldl_toList]
          have := foldl_put v.cells.toList off 0 cs (by simp; omega)
          simpa using this
        · cases h
      · cases h
    · cases h
end
end Go.Proofs.YtlpepmhpnmnpkaaDoor.Ev
