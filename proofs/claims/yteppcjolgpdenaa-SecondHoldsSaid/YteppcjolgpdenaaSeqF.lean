/-
  Second chance (layer 31): the first free place; Use.
-/
import Derived.Test.YteppcjolgpdenaaSeqE
set_option linter.unusedVariables false
set_option linter.unusedSimpArgs false
namespace Go.Proofs.Yteppcjolgpdenaa.Seq
open Go Go.RowKit Kit Go.Maps
set_option maxRecDepth 100000 in
theorem free_any {w : World} (p : Pl) :
    Calls Try.prog 30 #[.agg #[.int .u32 p.k, .bool p.f, .bool p.m]] w fun e w' => e = .returned (.bool (!p.f)) ∧ Below w.heap.size w w' := by
  go_enter Try.func30, Try.ntmps30
  go_wp2_with fail
  go_ret
  exact ⟨rfl, by go_grown⟩
theorem hole_step {l : List Pl} {i j : Nat} (h : hole l = some i) (hj : j ≤ i) : ∃ p, l[j]? = some p ∧ (j < i → p.f = true) ∧ (j = i → p.f = false) := by
  unfold hole at h
  obtain ⟨hi, h1, h2⟩ := List.findIdx?_eq_some_iff_getElem.1 h
  refine ⟨l[j]'(by omega), List.getElem?_eq_getElem _, fun hlt => ?_, fun he => ?_⟩
  · simpa using h2 j hlt
  · subst he
    simpa using h1
set_option maxRecDepth 100000 in
theorem index_any {w : World} {q cap : Nat} {l : List Pl} (H : Rw w q l) {i : Nat} (hi : hole l = some i) (hl : l.length ≤ 1024) :
    Calls Try.prog 29 #[.slice (some ⟨q, 0, none⟩) l.length cap, .func (.func 30) #[] #[]] w fun e w' => e = .returned (.int .i64 (i : Int)) ∧ Below w.heap.size w w' := by
  go_enter Try.func29, Try.ntmps29
  go_wp2_with fail
  go_loopw [8] (fun v wr => ∃ j : Nat, j ≤ i ∧ v = .int .i64 j ∧ Below w.heap.size w wr) (fun v _ => i - (intOf v).toNat)
  case atStart => exact ⟨0, by omega, rfl, Below.refl _ _⟩
  case round =>
    obtain ⟨j, hj, rfl, bW⟩ := hrel
    obtain ⟨p, hp, t1, t2⟩ := hole_step hi hj
    have hlt : j < l.length := (List.getElem?_eq_some_iff.1 hp).1
    have hlt' : (j : Int) < (l.length : Int) := by omega
    have j0 : (0 : Int) ≤ (j : Int) := by omega
    obtain ⟨e0, e1, e2, -⟩ := (H.of (bW.block q H.lt)).at_ hp
    have HF := Lib.hid (fun w => free_any (w := w) p)
    have BW := Lib.hid bW
    by_cases hji : j = i
    · have hpf : p.f = false := t2 hji
      rw [hpf] at HF e1
      obtain ⟨pk, pf, pm⟩ := p
      simp only at HF e0 e1 e2
      clear hp t1 t2 bW
      generalize l.length = n at *
      subst hji
      go_wp2_with fail
      refine (HF.out _).mono ?_
      rintro e w3 ⟨rfl, b3⟩
      have B3 := Lib.hid (tr BW.out b3)
      clear b3
      go_wp2_with fail
      go_ret
      exact ⟨rfl, B3.out⟩
    · have hpf : p.f = true := t1 (by omega)
      rw [hpf] at HF e1
      obtain ⟨pk, pf, pm⟩ := p
      simp only at HF e0 e1 e2
      clear hp t1 t2 bW
      generalize l.length = n at *
      go_wp2_with fail
      refine (HF.out _).mono ?_
      rintro e w3 ⟨rfl, b3⟩
      have B3 := Lib.hid (tr BW.out b3)
      clear b3
      go_wp2_with fail
      go_roundw
      case rel => exact ⟨j + 1, by omega, by go_num, B3.out⟩
      case measure => simp [intOf]; omega
end Go.Proofs.Yteppcjolgpdenaa.Seq
