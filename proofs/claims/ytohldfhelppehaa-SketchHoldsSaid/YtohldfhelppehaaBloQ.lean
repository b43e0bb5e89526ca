/-
  Walks over package bloom (layer 34): joins, clearing.
-/
import Derived.Test.YtohldfhelppehaaBloS
import Derived.Lib.SliceRun
import Derived.BigQuiet
import Derived.Deep.QuietTactic
set_option linter.unusedVariables false
set_option linter.unusedSimpArgs false
namespace Go.Proofs.Ytohldfhelppehaa.Blo
open Go.RowKit Kit Hash
theorem row_fill {q n : Nat} {t : TypeId} (z : Value) : ∀ (m o : Nat) (W : World) (f : Nat → Value), Row W q n t f → o + m ≤ n → Row (W.setCells q o (List.replicate m z)) q n t (fun j => if o ≤ j ∧ j < o + m then z else f j) ∧ But q W (W.setCells q o (List.replicate m z)) := by
  intro m
  induction m with
  | zero => intro o W f h ho; exact ⟨h.congr fun i hi => by rw [if_neg (by omega)], But.refl _ _⟩
  | succ m ih =>
    intro o W f h ho
    obtain ⟨h1, h2⟩ := ih (o + 1) _ _ (h.set o z) (by omega)
    refine ⟨h1.congr fun i hi => ?_, ((But.refl q W).setCell z).trans h2⟩
    by_cases hi : i = o
    · subst hi
      have h3 : ¬ (i + 1 ≤ i ∧ i < i + 1 + m) := by omega
      have h4 : i ≤ i ∧ i < i + (m + 1) := by omega
      rw [if_neg h3, if_pos h4, if_pos rfl]
    · by_cases h3 : o + 1 ≤ i ∧ i < o + 1 + m
      · have h4 : o ≤ i ∧ i < o + (m + 1) := by omega
        rw [if_pos h3, if_pos h4]
      · have h4 : ¬ (o ≤ i ∧ i < o + (m + 1)) := by omega
        rw [if_neg h3, if_neg h4, if_neg hi]
set_option maxRecDepth 100000 in
theorem clearR {W : World} {p q n : Nat} {hs sd : Int} {s : Nat → Bool} (h : Fl W p q n hs sd s) (ok : Ok n hs sd) :
    Calls Try.prog 24 #[.pointer (some ⟨p, 0, none⟩)] W fun e w' => e = .returned (.int .i64 0) ∧ Fl w' p q n hs sd (fun _ => false) ∧ But q W w' := by
  have HF := Lib.hid h
  have HZ := Lib.hid (isZero_no h.b ok)
  have n1 := ok.n1
  obtain ⟨cp, hcp, c3⟩ := h.b.c3
  have hcl := Lib.run_clear_slice (P := Try.prog) W 54 22 0 (.int .u64 0) Try.underlying54 (fun w => by kernel_rfl) rfl rfl q 0 n cp (by omega) (fun j hj => by rw [Nat.zero_add, h.r.cell j hj]; rfl) (fun j hj => by rw [Nat.zero_add]; exact h.r.fr j)
  obtain ⟨f1, f2⟩ := row_fill (.int .u64 0) n 0 W _ h.r (by omega)
  have hfl : Fl (W.setCells q 0 (List.replicate n (.int .u64 0))) p q n hs sd (fun _ => false) :=
    ⟨h.b.of_block (f2.block p h.b.lt h.ne), f1.congr fun i hi => by rw [if_pos (by omega), wd_empty]; rfl, h.ne⟩
  have HFL := Lib.hid hfl
  have HBU := Lib.hid f2
  clear f1 f2 hfl h ok
  go_enter Try.func24, Try.ntmps24
  go_wp2_with fail
  refine HZ.out.mono ?_
  rintro e w1 ⟨rfl, rfl⟩
  go_wp2_with fail
  go_ret
  exact ⟨rfl, HFL.out, HBU.out⟩
theorem or_wd (s t : Nat → Bool) (i : Nat) : bits .or .u64 ((wd s i : Nat) : Int) ((wd t i : Nat) : Int) = ((wd (fun k => s k || t k) i : Nat) : Int) := by
  rw [u64_or_nat _ _ (wd_lt _ _) (wd_lt _ _), ← wd_or]
set_option maxRecDepth 100000 in
theorem join_bad {W : World} {p q n p2 q2 n2 : Nat} {hs sd hs2 sd2 : Int} {s s2 : Nat → Bool} (h : Fl W p q n hs sd s) (ok : Ok n hs sd) (h' : Fl W p2 q2 n2 hs2 sd2 s2) (ok2 : Ok n2 hs2 sd2) (hne : ¬ (n = n2 ∧ hs = hs2 ∧ sd = sd2)) :
    Calls Try.prog 26 #[.pointer (some ⟨p, 0, none⟩), .pointer (some ⟨p2, 0, none⟩)] W fun e w' => e = .returned (.int .i64 10) ∧ Below W.heap.size W w' := by
  have HZ := Lib.hid (isZero_no h.b ok)
  have HZ2 := Lib.hid (isZero_no h'.b ok2)
  have a0 := h.b.c0
  have a1 := h.b.c1
  have a2 := h.b.c2
  obtain ⟨cp, hcp, a3⟩ := h.b.c3
  have b0 := h'.b.c0
  have b1 := h'.b.c1
  have b2 := h'.b.c2
  obtain ⟨cp2, hcp2, b3⟩ := h'.b.c3
  clear h ok h' ok2
  go_enter Try.func26, Try.ntmps26
  go_wp2_with fail
  refine HZ.out.mono ?_
  rintro e w1 ⟨rfl, rfl⟩
  go_wp2_with fail
  refine HZ2.out.mono ?_
  rintro e w1 ⟨rfl, rfl⟩
  by_cases e1 : n = n2
  · by_cases e2 : hs = hs2
    · have e3 : ¬ sd = sd2 := fun e => hne ⟨e1, e2, e⟩
      subst e1 e2
      clear hne
      go_wp2_with fail
      go_quiet (fail)
      go_wp2_with fail
      go_ret
      exact ⟨rfl, below_drewN (Below.refl _ _) _⟩
    · subst e1
      clear hne
      go_wp2_with fail
      go_quiet (fail)
      go_wp2_with fail
      go_ret
      exact ⟨rfl, below_drewN (Below.refl _ _) _⟩
  · have e1' : ((n : Int) != (n2 : Int)) = true := by simp; omega
    clear hne
    go_wp2_with fail
    go_quiet (fail)
    go_wp2_with fail
    go_ret
    exact ⟨rfl, below_drewN (Below.refl _ _) _⟩
set_option maxRecDepth 100000 in
theorem join_ok {W : World} {p q n p2 q2 : Nat} {hs sd : Int} {s s2 : Nat → Bool} (h : Fl W p q n hs sd s) (ok : Ok n hs sd) (h' : Fl W p2 q2 n hs sd s2) (hq : q ≠ q2) (hp2 : q ≠ p2) :
    Calls Try.prog 26 #[.pointer (some ⟨p, 0, none⟩), .pointer (some ⟨p2, 0, none⟩)] W fun e w' => e = .returned (.int .i64 0) ∧ Fl w' p q n hs sd (fun k => s k || s2 k) ∧ But q W w' := by
  have HZ := Lib.hid (isZero_no h.b ok)
  have HZ2 := Lib.hid (isZero_no h'.b ok)
  have HF := Lib.hid h
  have HF2 := Lib.hid h'
  have n1 := ok.n1
  have n2 := ok.n2
  have a0 := h.b.c0
  have a1 := h.b.c1
  have a2 := h.b.c2
  obtain ⟨cp, hcp, a3⟩ := h.b.c3
  have b0 := h'.b.c0
  have b1 := h'.b.c1
  have b2 := h'.b.c2
  obtain ⟨cp2, hcp2, b3⟩ := h'.b.c3
  clear h ok h'
  go_enter Try.func26, Try.ntmps26
  go_wp2_with fail
  refine HZ.out.mono ?_
  rintro e w1 ⟨rfl, rfl⟩
  go_wp2_with fail
  refine HZ2.out.mono ?_
  rintro e w1 ⟨rfl, rfl⟩
  go_wp2_with fail
  go_quiet (fail)
  go_wp2_with fail
  have H0 := Lib.hid (show But q W (W.drewN nq) from (But.refl q W).drewN)
  go_loopw [5, 6, 51] (fun _ _ i wr => ∃ j : Nat, j ≤ n ∧ i = .int .i64 j ∧ Row wr q n 22 (fun i => .int .u64 (if i < j then wd (fun k => s k || s2 k) i else wd s i : Nat)) ∧ But q W wr) (fun _ _ i _ => n - (intOf i).toNat)
  case atStart => exact ⟨0, by omega, rfl, (HF.out.r.of_block (W' := W.drewN nq) (below_drewN (B := W.heap.size) (Below.refl _ W) nq |>.block q HF.out.r.lt)).congr fun i _ => by simp, H0.out⟩
  case round =>
    obtain ⟨j, hj, rfl, hR, hB⟩ := hrel
    have HR := Lib.hid hR
    have HB := Lib.hid hB
    have m3 := (World.cell?_of_block (w := W) (hB.block p HF.out.b.lt HF.out.ne) : wr.cell? ⟨p, 3, none⟩ = _).trans a3
    clear hR hB
    by_cases hlt : j < n
    · have kq := HR.out.cell j hlt
      rw [if_neg (Nat.lt_irrefl j)] at kq
      have fq := HR.out.fr j
      have k2 := (HF2.out.r.but HB.out (Ne.symm hq)).cell j hlt
      have HO := Lib.hid (or_wd s s2 j)
      have HX := Lib.hid (HR.out.set j (.int .u64 (wd (fun k => s k || s2 k) j : Nat)))
      go_wp2_with fail
      go_roundw
      case rel =>
        refine ⟨j + 1, by omega, by go_num, ?_, HB.out.setCell _⟩
        rw [HO.out]
        refine HX.out.congr fun i hi => ?_
        by_cases h1 : i = j
        · subst h1; simp
        · by_cases h2 : i < j
          · have h3 : i < j + 1 := by omega
            simp [h1, h2, h3]
          · have h3 : ¬ i < j + 1 := by omega
            simp [h1, h2, h3]
      case measure => simp [intOf] <;> omega
    · obtain rfl : j = n := by omega
      go_wp2_with fail
      go_ret
      refine ⟨rfl, ⟨HF.out.b.of_block (HB.out.block p HF.out.b.lt HF.out.ne), HR.out.congr fun i hi => ?_, HF.out.ne⟩, HB.out⟩
      simp [hi]
end Go.Proofs.Ytohldfhelppehaa.Blo
