/-
  Walks over layer 33: lists of counters.
-/
import Derived.Test.YtohldfhelppehaaSkS
set_option linter.unusedVariables false
set_option linter.unusedSimpArgs false
namespace Go.Proofs.Ytohldfhelppehaa.Skt
open Go.RowKit Kit Hash Blo
set_option maxRecDepth 100000 in
theorem same33 {W : World} {a b n ca cb : Nat} {f : Nat → Int} {t1 t2 : TypeId} (ha : Row W a n t1 (fun i => .int .i64 (f i))) (hb : Row W b n t2 (fun i => .int .i64 (f i))) (hn : n ≤ 65536) :
    Calls Try.prog 46 #[.slice (some ⟨a, 0, none⟩) n ca, .slice (some ⟨b, 0, none⟩) n cb] W fun e w' => e = .returned (.bool true) ∧ Below W.heap.size W w' := by
  have HA := Lib.hid ha
  have HB := Lib.hid hb
  clear ha hb
  go_enter Try.func46, Try.ntmps46
  go_wp2_with fail
  go_loopw [5] (fun i wr => ∃ j : Nat, j ≤ n ∧ i = .int .i64 j ∧ Below W.heap.size W wr) (fun i _ => n - (intOf i).toNat)
  case atStart => exact ⟨0, by omega, rfl, Below.refl _ _⟩
  case round =>
    obtain ⟨j, hj, rfl, bW⟩ := hrel
    have HBW := Lib.hid bW
    by_cases hlt : j < n
    · have k1 := (HA.out.below bW).cell j hlt
      have k2 := (HB.out.below bW).cell j hlt
      clear bW
      go_wp2_with fail
      go_quiet (fail)
      go_wp2_with fail
      go_roundw
      case rel => exact ⟨j + 1, by omega, by go_num, below_drewN HBW.out _⟩
      case measure => simp [intOf] <;> omega
    · obtain rfl : j = n := by omega
      clear bW
      go_wp2_with fail
      go_ret
      exact ⟨rfl, HBW.out⟩
theorem padds {W : World} {p : Nat} {m t sd : Int} {n q1 c1 q2 c2 q3 c3 q4 c4 : Nat} (h : Sk W p m t sd n q1 c1 q2 c2 q3 c3 q4 c4) (n1 : 16 ≤ n) :
    Calls Try.prog 43 #[.pointer (some ⟨p, 0, none⟩)] W fun e w' => e = .returned (.int .i64 t) ∧ W = w' := by
  have HZ := Lib.hid (isz h n1)
  have d2 := h.c2
  clear h
  go_enter Try.func43, Try.ntmps43
  go_wp2_with fail
  refine HZ.out.mono ?_
  rintro e w1 ⟨rfl, rfl⟩
  go_wp2_with fail
  go_ret
  exact ⟨rfl, rfl⟩
set_option maxRecDepth 100000 in
set_option maxHeartbeats 1000000 in
theorem prow {W : World} {p : Nat} {m t sd : Int} {n q1 c1 q2 c2 q3 c3 q4 c4 : Nat} (h : Sk W p m t sd n q1 c1 q2 c2 q3 c3 q4 c4) (n1 : 16 ≤ n) (n2 : n ≤ 65536) {row q c : Nat} (hrow : row < 4) (hc : W.cell? ⟨p, 5 + row, none⟩ = some (.slice (some ⟨q, 0, none⟩) n c)) {f : Nat → Nat} (hf : ∀ i, f i < 256) (hr : Pr W q n f) :
    Calls Try.prog 42 #[.pointer (some ⟨p, 0, none⟩), .int .i64 row] W fun e w' => ∃ g, e = .returned (.tuple #[.slice (some ⟨g, 0, none⟩) n n, .int .i64 0]) ∧ Sr w' g n f ∧ W.heap.size ≤ g ∧ Below W.heap.size W w' := by
  have HZ := Lib.hid (isz h n1)
  have d0 := h.c0
  have hp := h.lt
  have hq := hr.lt
  have HR := Lib.hid hr
  have HF := Lib.hid hf
  have hmk := fun w => make_any (P := Try.prog) w 36 3 (.int .i64 0) 1 8 (by kernel_rfl) (by kernel_rfl) (n : Int) (by omega) (by omega) (by omega)
  clear h hr hf
  go_enter Try.func42, Try.ntmps42
  go_wp2_with fail
  refine HZ.out.mono ?_
  rintro e w1 ⟨rfl, rfl⟩
  go_wp2_with fail
  have HL := Lib.hid (Sr.new W n)
  have HB := Lib.hid (show Below W.heap.size W (W.alloc (.cells (madeCells #[.int .i64 0] n) 3)) by go_grown)
  go_loopw [29] (fun i wr => ∃ j : Nat, j ≤ n ∧ i = .int .i64 j ∧ Sr wr W.heap.size n (fun k => if k < j then f k else 0) ∧ Below W.heap.size W wr) (fun i _ => n - (intOf i).toNat)
  case atStart => exact ⟨0, by omega, rfl, Row.congr HL.out fun i hi => by simp, HB.out⟩
  case round =>
    clear HL HB
    obtain ⟨j, hj, rfl, hS, bW⟩ := hrel
    have HS := Lib.hid hS
    have HB := Lib.hid bW
    clear hS bW
    by_cases hlt : j < n
    · have k1 := (Row.below HR.out HB.out).cell j hlt
      have k2 := Row.cell HS.out j hlt
      have k3 := Row.fr HS.out j
      have hfj := HF.out j
      have hw : IntKind.i64.wrap ((f j : Nat) : Int) = (f j : Nat) := IntWalk.i64_in _ (by omega)
      go_wp2_with fail
      go_roundw
      case rel =>
        refine ⟨j + 1, by omega, by go_num, Row.congr (Row.set HS.out j (.int .i64 (f j : Nat))) fun i hi => ?_, HB.out.setCell (p := ⟨W.heap.size, j, none⟩) (Nat.le_refl _) _⟩
        by_cases hh : i = j
        · subst hh; simp
        · simp [hh, show (i < j + 1) = (i < j) by rw [eq_iff_iff]; omega]
      case measure => simp [intOf] <;> omega
    · obtain rfl : j = n := by omega
      go_wp2_with fail
      go_ret2
      exact ⟨W.heap.size, rfl, Row.congr HS.out fun i hi => by simp [hi], Nat.le_refl _, HB.out⟩
end Go.Proofs.Ytohldfhelppehaa.Skt
