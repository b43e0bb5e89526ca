/-
  A checked evaluator, part C: the operations.
-/
import Derived.Test.YtlpepmhpnmnpkaaDoorEvB
set_option linter.unusedVariables false
set_option linter.unusedSectionVars false
set_option linter.unusedSimpArgs false
namespace Go.Proofs.YtlpepmhpnmnpkaaDoor.Ev
open Go Go.RowKit
variable [Tab]

/-- what a computation yields that asks nothing of the world -/
def still {α : Type} (P : Program) : Sem α → Option α
  | .pure a => some a
  | .program k => still P (k P)
  | .mark _ k => still P k
  | _ => none
theorem still_run {α : Type} {P : Program} (s : Sem α) : ∀ {a : α}, still P s = some a → ∀ w, s.run P w = .ok a w := by
  induction s with
  | pure a => intro b h w; simp [still] at h; subst h; rfl
  | program k ih => intro b h w; simp [still] at h; exact ih P h w
  | mark m k ih => intro b h w; simp [still] at h; exact ih h w
  | _ => intro b h; simp [still] at h
def evClean (P : Program) (s : Sem Value) : Option Value :=
  match still P s with
  | some r => match clean r with | true => some r | false => none
  | none => none

section
variable {P : Program} {M : Mp} {σ : Nat → Value} {H : Tr Blk} {w : World}
/-- a computation ends well -/
def Ok (P : Program) (M : Mp) (σ : Nat → Value) (H : HP) (w : World) (s : Sem Value) (y : Value) (H' : HP) : Prop :=
  ∃ u M' w', s.run P w = .ok u w' ∧ VR M' σ y u ∧ HR M' σ H' w' ∧ Stp M H w M' H' w'
theorem Ok.pure {H : HP} (hH : HR M σ H w) {s : Sem Value} {y u : Value} (h : s.run P w = .ok u w) (hr : VR M σ y u) : Ok P M σ H w s y H :=
  ⟨u, M, w, h, hr, hH, Stp.refl _ _ _⟩
theorem Ok.clean {H : HP} (hH : HR M σ H w) {s : Sem Value} {y : Value} (h : evClean P s = some y) : Ok P M σ H w s y H := by
  unfold evClean at h
  split at h
  · rename_i r hr
    split at h
    · rename_i hc
      cases h
      exact .pure hH (still_run s hr w) (VR.of_clean _ hc)
    · cases h
  · cases h

def aggT (P : Program) (t : TypeId) : Option Bool :=
  match P.underlying t with
  | some (.struct _) | some (.array _ _) => some true
  | some _ => some false
  | none => none
def sizeT (P : Program) (t : TypeId) : Option Nat :=
  match P.info? t with
  | some i => some i.size
  | none => none
omit [Tab] in
theorem run_underlying' {t : TypeId} {d : TypeDesc} (h : P.underlying t = some d) (w : World) : (underlying t).run P w = .ok d w := by
  simp [underlying, h]
omit [Tab] in
theorem run_isAgg' {t : TypeId} {b : Bool} (h : aggT P t = some b) (w : World) : (isAgg t).run P w = .ok b w := by
  unfold aggT at h
  cases hu : P.underlying t with
  | none => rw [hu] at h; cases h
  | some d =>
    rw [hu] at h
    cases d <;> simp at h <;> subst h <;> simp [isAgg, run_underlying' hu]
omit [Tab] in
theorem run_typeInfo' {t : TypeId} {i : TypeInfo} (h : P.info? t = some i) (w : World) : (typeInfo t).run P w = .ok i w := by
  simp [typeInfo, h]
omit [Tab] in
theorem run_sizeOf' {t : TypeId} {n : Nat} (h : sizeT P t = some n) (w : World) : (sizeOf t).run P w = .ok n w := by
  unfold sizeT at h
  split at h
  · rename_i i hi
    cases h
    simp [sizeOf, run_typeInfo' hi]
  · cases h

/-- n cells of a list from o on -/
def takeE {α : Type} : Nat → List α → Option (List α)
  | 0, _ => some []
  | _ + 1, [] => none
  | n + 1, x :: l => match takeE n l with | some r => some (x :: r) | none => none
theorem takeE_get {α : Type} : ∀ {n : Nat} {l r : List α}, takeE n l = some r → r.length = n ∧ ∀ j, j < n → r[j]? = l[j]?
  | 0, _, _, h => by simp [takeE] at h; subst h; simp
  | n + 1, [], _, h => by simp [takeE] at h
  | n + 1, x :: l, r, h => by
    simp only [takeE] at h
    split at h
    · rename_i r' hr'
      cases h
      obtain ⟨h1, h2⟩ := takeE_get hr'
      refine ⟨by simp [h1], fun j hj => ?_⟩
      match j with
      | 0 => rfl
      | j + 1 => simpa using h2 j (by omega)
    · cases h
def cellsE (H : Tr Blk) (i o n : Nat) : Option (List Value) :=
  match H.get (key i) with
  | some (.cells _ xs) => takeE n (xs.drop o)
  | _ => none
theorem cellsE_run (hH : HR M σ H.get w) {i o n : Nat} {ys : List Value} (h : cellsE H i o n = some ys) {p : Place} (hp : M (key i) = some p) :
    ∃ vs, vs.length = n ∧ VRs M σ ys vs ∧ (∀ j v, vs[j]? = some v → w.cell? ⟨p.b, p.s + o + j, none⟩ = some v) := by
  unfold cellsE at h
  split at h
  · rename_i t xs hg
    obtain ⟨hl, hj⟩ := takeE_get h
    have hcell : ∀ j, j < n → ∃ x v, ys[j]? = some x ∧ w.cell? ⟨p.b, p.s + o + j, none⟩ = some v ∧ VR M σ x v := fun j hjn => by
      have e := hj j hjn
      rw [List.getElem?_drop] at e
      have hx : ys[j]? = some (ys[j]'(by omega)) := List.getElem?_eq_getElem (by omega)
      rw [hx] at e
      obtain ⟨v, hv, hr⟩ := hH.cell hg hp e.symm
      exact ⟨_, v, hx, by rw [show p.s + o + j = p.s + (o + j) by omega]; exact hv, hr⟩
    refine ⟨(List.range n).map fun j => (w.cell? ⟨p.b, p.s + o + j, none⟩).getD undef, by simp, VRs.of_get (by simp [hl]) ?_, ?_⟩
    · intro j x v hx hv
      have hjn : j < n := by
        have := (List.getElem?_eq_some_iff.1 hx).1
        omega
      obtain ⟨x', v', hx', hv', hr⟩ := hcell j hjn
      rw [hx] at hx'; cases hx'
      simp [hjn, hv'] at hv; subst hv; exact hr
    · intro j v hv
      have hjn : j < n := by
        have := (List.getElem?_eq_some_iff.1 hv).1
        simpa using this
      obtain ⟨x', v', hx', hv', hr⟩ := hcell j hjn
      simp [hjn, hv'] at hv; subst hv; exact hv'
  · cases h
/-- a variable is loaded -/
def loadE (P : Program) (t : TypeId) (H : Tr Blk) (i o : Nat) : Option Value :=
  match aggT P t with
  | some true => match sizeT P t with
    | some n => match cellsE H i o n with | some l => some (.agg ⟨l⟩) | none => none
    | none => none
  | some false => match H.get (key i) with
    | some (.cells _ xs) => xs[o]?
    | _ => none
  | none => none
theorem addr_add (b o j : Nat) : (⟨b, o, none⟩ : Addr).add j = ⟨b, o + j, none⟩ := by
  unfold Addr.add
  split
  · subst_vars; rfl
  · rfl
theorem loadVar_run (hH : HR M σ H.get w) {t : TypeId} {i o : Nat} {y : Value} (h : loadE P t H i o = some y) {p : Place} (hp : M (key i) = some p) :
    ∃ u, (loadVar t ⟨p.b, p.s + o, none⟩).run P w = .ok u w ∧ VR M σ y u := by
  unfold loadE at h
  split at h
  · rename_i ha
    split at h
    · rename_i n hn
      split at h
      · rename_i l hl
        cases h
        obtain ⟨vs, h1, h2, h3⟩ := cellsE_run hH hl hp
        refine ⟨.agg vs.toArray, ?_, .agg h2⟩
        have hc := run_loadCells_list (P := P) w ⟨p.b, p.s + o, none⟩ vs (fun j v hv => by rw [addr_add]; exact h3 j v hv)
        rw [h1] at hc
        simp [loadVar, run_isAgg' ha, run_sizeOf' hn, hc]
      · cases h
    · cases h
  · rename_i ha
    split at h
    · rename_i t' xs hg
      obtain ⟨v, hv, hr⟩ := hH.cell hg hp h
      exact ⟨v, by simp [loadVar, run_isAgg' ha, hv], hr⟩
    · cases h
  · cases h
/-- a row that was there before -/
def globE (b : Nat) : List (Nat × List Value) → Option (List Value)
  | [] => none
  | (b', xs) :: l => match Nat.beq b b' with
    | true => some xs
    | false => globE b l
theorem globE_mem {b : Nat} {xs : List Value} : ∀ {l : List (Nat × List Value)}, globE b l = some xs → (b, xs) ∈ l
  | [], h => by cases h
  | (b', ys) :: l, h => by
    simp only [globE] at h
    split at h
    · rename_i hb; cases h; rw [Nat.eq_of_beq_eq_true hb]; exact List.mem_cons_self
    · exact List.mem_cons_of_mem _ (globE_mem h)
def loadG (P : Program) (t : TypeId) (b o : Nat) : Option Value :=
  match globE b Tab.globs with
  | none => none
  | some xs => match aggT P t with
    | some true => match sizeT P t with
      | some n => match takeE n (xs.drop o) with | some l => some (.agg ⟨l⟩) | none => none
      | none => none
    | some false => xs[o]?
    | none => none
theorem le_none (M : Mp) : Le (fun _ => none) M := fun _ _ h => by cases h
theorem loadG_run (hH : HR M σ H.get w) {t : TypeId} {b o : Nat} {y : Value} (h : loadG P t b o = some y) :
    ∃ u, (loadVar t ⟨b, o, none⟩).run P w = .ok u w ∧ VR M σ y u := by
  unfold loadG at h
  split at h
  · cases h
  · rename_i xs hxs
    obtain ⟨⟨c, t', fr, h1, h2⟩, -⟩ := hH.gl _ (globE_mem hxs)
    simp only at h1 h2
    split at h
    · rename_i ha
      split at h
      · rename_i n hn
        split at h
        · rename_i l hl
          cases h
          obtain ⟨hlen, hj⟩ := takeE_get hl
          have hget : ∀ j, j < n → ∃ v, w.cell? ⟨b, o + j, none⟩ = some v ∧ ∃ x, l[j]? = some x ∧ VR M σ x v := fun j hjn => by
            have e := hj j hjn
            rw [List.getElem?_drop] at e
            have hx : l[j]? = some (l[j]'(by omega)) := List.getElem?_eq_getElem (by omega)
            rw [hx] at e
            obtain ⟨v, hv, hr⟩ := h2 (o + j) _ e.symm
            exact ⟨v, by simp [World.cell?, h1, hv], _, hx, hr.mono (le_none M)⟩
          have hvs : VRs M σ l ((List.range n).map fun j => (w.cell? ⟨b, o + j, none⟩).getD undef) := by
            refine VRs.of_get (by simp [hlen]) fun j x v hx hv => ?_
            have hjn : j < n := by
              have := (List.getElem?_eq_some_iff.1 hx).1
              omega
            obtain ⟨v', hv', x', hx', hr⟩ := hget j hjn
            rw [hx] at hx'; cases hx'
            simp [hjn, hv'] at hv; subst hv; exact hr
          refine ⟨.agg ((List.range n).map fun j => (w.cell? ⟨b, o + j, none⟩).getD undef).toArray, ?_, .agg hvs⟩
          have hc := run_loadCells_list (P := P) w ⟨b, o, none⟩ ((List.range n).map fun j => (w.cell? ⟨b, o + j, none⟩).getD undef) (fun j v hv => by
            rw [addr_add]
            have hjn : j < n := by
              have := (List.getElem?_eq_some_iff.1 hv).1
              simpa using this
            obtain ⟨v', hv', -⟩ := hget j hjn
            simp [hjn, hv'] at hv; subst hv; exact hv')
          rw [List.length_map, List.length_range] at hc
          simp [loadVar, run_isAgg' ha, run_sizeOf' hn, hc]
        · cases h
      · cases h
    · rename_i ha
      obtain ⟨v, hv, hr⟩ := h2 o y h
      exact ⟨v, by simp [loadVar, run_isAgg' ha, World.cell?, h1, hv], hr.mono (le_none M)⟩
    · cases h
end
end Go.Proofs.YtlpepmhpnmnpkaaDoor.Ev
