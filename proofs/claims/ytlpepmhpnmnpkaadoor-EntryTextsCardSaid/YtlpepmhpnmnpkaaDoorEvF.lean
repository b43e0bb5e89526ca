/-
  A checked evaluator, part F: composite values, comparisons, arithmetic.
-/
import Derived.Test.YtlpepmhpnmnpkaaDoorEvE
import Derived.IntWalk
set_option linter.unusedVariables false
set_option linter.unusedSectionVars false
set_option linter.unusedSimpArgs false
namespace Go.Proofs.YtlpepmhpnmnpkaaDoor.Ev
open Go Go.RowKit
variable [Tab]

section
variable {P : Program} {M : Mp} {σ : Nat → Value} {H : Tr Blk} {w : World}
def placesE (P : Program) : List Field → Option (List (Nat × Nat))
  | [] => some []
  | f :: fs => match sizeT P f.type, placesE P fs with
    | some n, some r => some ((f.offset, n) :: r)
    | _, _ => none
theorem placesE_run : ∀ {fs : List Field} {r : List (Nat × Nat)}, placesE P fs = some r → (fs.mapM fun f => do pure (f.offset, ← sizeOf f.type) : Sem (List (Nat × Nat))).run P w = .ok r w
  | [], r, h => by simp [placesE] at h; subst h; simp
  | f :: fs, r, h => by
    simp only [placesE] at h
    split at h
    · rename_i n r' hn hr'
      cases h
      simp only [List.mapM_cons, Sem.run_bind, run_sizeOf' hn, Result.andThen_ok, Sem.run_pure]
      rw [placesE_run hr']
      simp
    · cases h
def opds (ρ : Operand → Option Value) : List Operand → Option (List Value)
  | [] => some []
  | x :: xs => match ρ x, opds ρ xs with
    | some v, some r => some (v :: r)
    | _, _ => none
theorem opds_vr {ρ : Operand → Option Value} {η : Operand → Value} (h : Opd M σ ρ η) : ∀ {xs : List Operand} {r : List Value}, opds ρ xs = some r → VRs M σ r (xs.map η)
  | [], r, e => by simp [opds] at e; subst e; exact .nil
  | x :: xs, r, e => by
    simp only [opds] at e
    split at e
    · rename_i v r' hv hr'
      cases e
      exact .cons (h _ _ hv) (opds_vr h hr')
    · cases e
def partsE (ρ : Operand → Option Value) : List (Nat × Operand) → Option (List (Nat × Value))
  | [] => some []
  | (i, x) :: xs => match ρ x, partsE ρ xs with
    | some v, some r => some ((i, v) :: r)
    | _, _ => none
theorem partsE_vr {ρ : Operand → Option Value} {η : Operand → Value} (h : Opd M σ ρ η) : ∀ {xs : List (Nat × Operand)} {r : List (Nat × Value)}, partsE ρ xs = some r → VPs M σ r (xs.map fun (i, x) => (i, η x))
  | [], r, e => by simp [partsE] at e; subst e; exact .nil
  | (i, x) :: xs, r, e => by
    simp only [partsE] at e
    split at e
    · rename_i v r' hv hr'
      cases e
      exact .cons i (h _ _ hv) (partsE_vr h hr')
    · cases e
def zeroE (P : Program) (t : TypeId) : Option (List Value) :=
  match P.info? t with
  | some i => match i.zero with
    | some z => match cleans z.cells.toList with
      | true => some z.cells.toList
      | false => none
    | none => none
  | none => none
theorem zeroE_run {t : TypeId} {l : List Value} (h : zeroE P t = some l) : ∃ z : Value, (zeroValue t).run P w = .ok z w ∧ z.cells.toList = l ∧ cleans l = true := by
  unfold zeroE at h
  split at h
  · rename_i i hi
    split at h
    · rename_i z hz
      split at h
      · rename_i hc
        cases h
        exact ⟨z, by simp [zeroValue, run_typeInfo' hi, hz], rfl, hc⟩
      · cases h
    · cases h
  · cases h
def evBuild (P : Program) (t : TypeId) (parts : List (Nat × Value)) : Option OpR :=
  match zeroE P t with
  | some z => match P.underlying t with
    | some (.struct fs) => match placesE P fs.toList with
      | some pl => match fillE (fun i => pl[i]?) z parts with
        | some c => some (.pure (.agg ⟨c⟩))
        | none => none
      | none => none
    | some (.array _ e) => match sizeT P e with
      | some n => match fillE (fun i => some (i * n, n)) z parts with
        | some c => some (.pure (.agg ⟨c⟩))
        | none => none
      | none => none
    | _ => none
  | none => none
theorem evBuild_ok {t : TypeId} {parts : Array (Nat × Operand)} {ρ : Operand → Option Value} {η : Operand → Value} (hη : Opd M σ ρ η) {ps : List (Nat × Value)} (hps : partsE ρ parts.toList = some ps)
    {r : OpR} (h : evBuild P t ps = some r) {op : Oper} (ho : op.op = .build t parts) : Snd M σ H w ((execOp η op).run P w) r := by
  have hp := partsE_vr hη hps
  unfold evBuild at h
  split at h
  · rename_i z hz
    obtain ⟨zv, z1, z2, z3⟩ := zeroE_run (P := P) (w := w) hz
    have hzr : VRs M σ z zv.cells.toList := by rw [z2]; exact VRs.of_clean _ z3
    split at h
    · rename_i fs hu
      split at h
      · rename_i pl hpl
        split at h
        · rename_i c hc
          cases h
          obtain ⟨r', f1, f2⟩ := fillE_run hc hp hzr
          refine ⟨.agg r', .inl ?_, .agg f2⟩
          have hm : (fs.mapM fun f => do pure (f.offset, ← sizeOf f.type) : Sem (Array (Nat × Nat))).run P w = .ok pl.toArray w := by
            rw [Array.mapM_eq_mapM_toList]
            rw [Sem.run_map, placesE_run hpl]
            rfl
          simp only [execOp, ho, Instr.build, Sem.run_bind, z1, Result.andThen_ok, run_underlying' hu, hm, Array.toList_map]
          have : (fun x : Nat => (pl.toArray)[x]?) = fun i => pl[i]? := by funext i; simp
          rw [this, f1]
          simp
        · cases h
      · cases h
    · rename_i n e hu
      split at h
      · rename_i m hm
        split at h
        · rename_i c hc
          cases h
          obtain ⟨r', f1, f2⟩ := fillE_run hc hp hzr
          refine ⟨.agg r', .inl ?_, .agg f2⟩
          simp only [execOp, ho, Instr.build, Sem.run_bind, z1, Result.andThen_ok, run_underlying' hu, run_sizeOf' hm, Array.toList_map]
          rw [f1]
          simp
        · cases h
      · cases h
    · cases h
  · cases h
def cyc (n : Nat) (z : List Value) : List Value := (List.range n).map fun i => z.getD (i % z.length) default
theorem cyc_eq (n : Nat) (z : Array Value) : ((Array.range n).map (fun i => z[i % z.size]!)).toList = cyc n z.toList := by
  simp [cyc, Array.toList_range]
  intro i _
  rw [getElem!_def]
  cases z[i % z.size]? <;> rfl
def evBuildSlice (P : Program) (t : TypeId) (len : Nat) (parts : List (Nat × Value)) : Option OpR :=
  match P.underlying t with
  | some (.slice e) => match sizeT P e, zeroE P e with
    | some n, some z => match Nat.ble (len * n) 16777216, Nat.blt 0 (len * n) with
      | true, true => match cleans (cyc (len * n) z) with
        | true => match fillE (fun i => some (i * n, n)) (cyc (len * n) z) parts with
          | some c => some (.new (.cells e c) (sliceTo len len))
          | none => none
        | false => none
      | true, false => match parts with
        | [] => some (.new (.cells e []) (sliceTo len len))
        | _ => none
      | _, _ => none
    | _, _ => none
  | _ => none
theorem evBuildSlice_ok {t : TypeId} {len : Nat} {parts : Array (Nat × Operand)} {ρ : Operand → Option Value} {η : Operand → Value} (hη : Opd M σ ρ η) {ps : List (Nat × Value)} (hps : partsE ρ parts.toList = some ps)
    {r : OpR} (h : evBuildSlice P t len ps = some r) {op : Oper} (ho : op.op = .buildSlice t len parts) : Snd M σ H w ((execOp η op).run P w) r := by
  have hp := partsE_vr hη hps
  unfold evBuildSlice at h
  split at h
  · rename_i e hu
    split at h
    · rename_i n z hn hz
      obtain ⟨zv, z1, z2, z3⟩ := zeroE_run (P := P) (w := w) hz
      split at h
      · rename_i hle hpos
        have hle' := Nat.le_of_ble_eq_true hle
        have hpos' := blt_lt hpos
        split at h
        · rename_i hcl
          split at h
          · rename_i c hc
            cases h
            have hcr : VRs M σ (cyc (len * n) z) ((Array.range (len * n)).map (fun i => zv.cells[i % zv.cells.size]!)).toList := by
              rw [cyc_eq, z2]; exact VRs.of_clean _ hcl
            obtain ⟨r', f1, f2⟩ := fillE_run hc hp hcr
            refine snd_row (vs := r'.toList) (u := .slice (some ⟨w.heap.size, 0, none⟩) len len) ?_ f2 (fun id M' hm => sliceTo_vr hm)
            simp only [execOp, ho, Instr.buildSlice, Sem.run_bind, run_underlying' hu, run_sizeOf' hn, Result.andThen_ok, Array.toList_map]
            rw [if_neg (by omega)]
            rw [if_neg (by omega)]
            simp only [Sem.run_bind, Sem.run_pure, z1, Result.andThen_ok]
            rw [f1]
            simp [newRow]
          · cases h
        · cases h
      · rename_i hle hpos
        have hle' := Nat.le_of_ble_eq_true hle
        have hpos' : len * n = 0 := by
          rcases Nat.eq_zero_or_pos (len * n) with h0 | h0
          · exact h0
          · rw [show Nat.blt 0 (len * n) = true by rw [Nat.blt_eq]; exact h0] at hpos; cases hpos
        split at h
        · cases h
          generalize hpl : parts.toList.map (fun x : Nat × Operand => match x with | (i, x) => (i, η x)) = l at hp
          cases hp
          refine snd_row (vs := []) (u := .slice (some ⟨w.heap.size, 0, none⟩) len len) ?_ .nil (fun id M' hm => sliceTo_vr hm)
          have hpe : parts = #[] := by
            have := congrArg List.length hpl
            simp at this
            exact this
          subst hpe
          simp only [execOp, ho, Instr.buildSlice, Sem.run_bind, run_underlying' hu, run_sizeOf' hn, Result.andThen_ok]
          rw [if_neg (by omega), if_pos hpos']
          simp [hpos', Instr.fill, newRow]
          congr 2
          apply Array.ext'
          simp [Array.toList_range]
        · cases h
      · cases h
    · cases h
  · cases h
def evMakeSlice (P : Program) (t : TypeId) (l c : Value) : Option OpR :=
  match P.underlying t, idx l, idx c with
  | some (.slice e), some ln, some cp => match P.info? e, sizeT P e, zeroE P e with
    | some i, some n, some z => match Nat.ble ln cp, Nat.blt cp 1073741824, Nat.ble (i.bytes * cp) 281474976710656, Nat.blt 0 n with
      | true, true, true, true => match cleans (cyc (cp * n) z) with
        | true => some (.new (.cells e (cyc (cp * n) z)) (sliceTo ln cp))
        | false => none
      | _, _, _, _ => none
    | _, _, _ => none
  | _, _, _ => none
theorem wrap_small {n : Nat} (h : n < 1073741824) : IntKind.i64.wrap (n : Int) = n := IntWalk.i64_in _ (by omega)
theorem evMakeSlice_ok {t : TypeId} {l c : Operand} {η : Operand → Value} {vl vc : Value} (hl : VR M σ vl (η l)) (hc : VR M σ vc (η c)) {r : OpR} (h : evMakeSlice P t vl vc = some r) {op : Oper} (ho : op.op = .makeSlice t l c) :
    Snd M σ H w ((execOp η op).run P w) r := by
  unfold evMakeSlice at h
  split at h
  · rename_i e ln cp hu il ic
    obtain ⟨kl, hkl⟩ := idx_eq il hl
    obtain ⟨kc, hkc⟩ := idx_eq ic hc
    split at h
    · rename_i i n z hi hn hz
      obtain ⟨zv, z1, z2, z3⟩ := zeroE_run (P := P) (w := w) hz
      split at h
      · rename_i a1 a2 a3 a4
        have a1 := Nat.le_of_ble_eq_true a1
        have a2 := blt_lt a2
        have a3 := Nat.le_of_ble_eq_true a3
        have a4 := blt_lt a4
        split at h
        · rename_i hcl
          cases h
          refine snd_row (vs := ((Array.range (cp * n)).map (fun i => zv.cells[i % zv.cells.size]!)).toList) (u := .slice (some ⟨w.heap.size, 0, none⟩) ln cp) ?_ (by rw [cyc_eq, z2]; exact VRs.of_clean _ hcl) (fun id M' hm => sliceTo_vr hm)
          simp only [execOp, ho, Instr.makeSlice, Sem.run_bind, run_underlying' hu, Result.andThen_ok, hkl, hkc, asInt, asIntOf, Sem.run_pure, run_typeInfo' hi, wrap_small a2, wrap_small (Nat.lt_of_le_of_lt a1 a2)]
          have e1 : ((cp : Int) < 0) = False := by simp
          have e2 : ((i.bytes : Int) * (cp : Int) > 2 ^ 48) = False := by simp only [eq_iff_iff, iff_false, gt_iff_lt, Int.not_lt]; norm_cast
          have e3 : ((ln : Int) < 0) = False := by simp
          have e4 : ((ln : Int) > (cp : Int)) = False := by simp; omega
          simp only [e1, e2, e3, e4]
          by_cases e5 : cp * n = 0
          · simp [run_sizeOf' hn, e5, newRow]
            congr 2
            apply Array.ext'
            simp [Array.toList_range]
          · simp [run_sizeOf' hn, e5, newRow, z1]
            congr 2
            apply Array.ext'
            simp [Array.toList_range]
        · cases h
      · cases h
    · cases h
  · cases h
end
end Go.Proofs.YtlpepmhpnmnpkaaDoor.Ev
