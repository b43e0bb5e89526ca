/-
  The law of layer 33 on places.
-/
import Derived.Test.YtohldfhelppehaaSkU
set_option linter.unusedVariables false
set_option linter.unusedSimpArgs false
namespace Go.Proofs.Ytohldfhelppehaa.Skt
open Go.RowKit Kit Hash Blo
theorem isz {W : World} {p : Nat} {m t sd : Int} {n q1 c1 q2 c2 q3 c3 q4 c4 : Nat} (h : Sk W p m t sd n q1 c1 q2 c2 q3 c3 q4 c4) (n1 : 16 ≤ n) :
    Calls Try.prog 63 #[.pointer (some ⟨p, 0, none⟩)] W fun e w' => e = .returned (.bool false) ∧ W = w' := by
  have d0 := h.c0
  clear h
  go_enter Try.func63, Try.ntmps63
  go_wp2_with fail
  go_ret
  exact ⟨ret_bool (by simp; omega), rfl⟩
theorem arr4 (w : World) (a0 a1 a2 a3 : Int) :
    (Op.equalIn 10000 71 (.agg #[.int .i64 a0, .int .i64 a1, .int .i64 a2, .int .i64 a3]) (.agg #[.int .i64 a0, .int .i64 a1, .int .i64 a2, .int .i64 a3])).run Try.prog w = .ok true w := by
  have e : ∀ (a b : Int) (w : World), (Op.equalIn 9999 3 (.int .i64 a) (.int .i64 b)).run Try.prog w = .ok (a == b) w := fun a b w => run_equalIn_int w 9998 3 .i64 .i64 a b Try.underlying3
  rw [show (10000 : Nat) = 9999 + 1 from rfl, Op.equalIn]
  simp [run_underlying Try.underlying71, List.range', part, isAgg, run_underlying Try.underlying3, e]
theorem box_at {W w1 : World} {z0 z1 z2 z3 : Value} {t : TypeId} (b1 : Below (W.alloc (.cells #[z0, z1, z2, z3] t)).heap.size (W.alloc (.cells #[z0, z1, z2, z3] t)) w1) :
    w1.heap[W.heap.size]? = some (.cells #[z0, z1, z2, z3] t) := by
  rw [b1.block W.heap.size (by simp)]
  exact (MapKept.heap_alloc _ _).1
set_option maxRecDepth 100000 in
theorem pPlaces {W : World} {p : Nat} {m t sd : Int} (hs : Word sd) {n q1 c1 q2 c2 q3 c3 q4 c4 : Nat} (h : Sk W p m t sd n q1 c1 q2 c2 q3 c3 q4 c4) (n1 : 16 ≤ n) (n2 : n ≤ 65536) (k : ByteArray) (hk : k.size ≤ maxLen) :
    Calls Try.prog 62 #[.pointer (some ⟨p, 0, none⟩), .string k] W fun e w' => e = .returned (.tuple #[pv (sumN sd k) n, .int .i64 0]) ∧ Below W.heap.size W w' := by
  have HZ := Lib.hid (fun (w : World) (hb : Below W.heap.size W w) => isz (h.below hb) n1)
  have HP := Lib.hid (fun (w : World) (hb : Below W.heap.size W w) => pplc hs (h.below hb) n1 n2 k hk)
  have hp := h.lt
  clear h hs
  unfold pv at *
  generalize ((sumN sd k % n : Nat) : Int) = y1 at *
  generalize ((sumN sd k / 65536 % n : Nat) : Int) = y2 at *
  generalize ((sumN sd k / 65536 / 65536 % n : Nat) : Int) = y3 at *
  generalize ((sumN sd k / 65536 / 65536 / 65536 % n : Nat) : Int) = y4 at *
  go_enter Try.func62, Try.ntmps62
  go_wp2_with fail
  refine (HZ.out _ (by go_grown)).mono ?_
  rintro e w1 ⟨rfl, rfl⟩
  go_wp2_with fail
  refine (HP.out _ (by go_grown)).mono ?_
  rintro e w1 ⟨rfl, b1⟩
  have B1 := Lib.hid (show Below W.heap.size W w1 from tr (by go_grown) b1)
  have RA := Lib.hid (box_new (box_at b1))
  clear b1
  have a0 := RA.out.cell 0 (by decide)
  have a1 := RA.out.cell 1 (by decide)
  have a2 := RA.out.cell 2 (by decide)
  have a3 := RA.out.cell 3 (by decide)
  have af := RA.out.fr
  go_wp2_with fail
  obtain ⟨z0, z1, z2, z3⟩ := four_cells RA.out (.int .i64 y1) (.int .i64 y2) (.int .i64 y3) (.int .i64 y4)
  have BZ := Lib.hid (show Below W.heap.size W ((((w1.setCell ⟨W.heap.size, 0, none⟩ (.int .i64 y1)).setCell ⟨W.heap.size, 1, none⟩ (.int .i64 y2)).setCell ⟨W.heap.size, 2, none⟩ (.int .i64 y3)).setCell ⟨W.heap.size, 3, none⟩ (.int .i64 y4)) from (((B1.out.setCell (p := ⟨W.heap.size, 0, none⟩) (Nat.le_refl _) _).setCell (p := ⟨W.heap.size, 1, none⟩) (Nat.le_refl _) _).setCell (p := ⟨W.heap.size, 2, none⟩) (Nat.le_refl _) _).setCell (p := ⟨W.heap.size, 3, none⟩) (Nat.le_refl _) _)
  generalize ((((w1.setCell ⟨W.heap.size, 0, none⟩ (.int .i64 y1)).setCell ⟨W.heap.size, 1, none⟩ (.int .i64 y2)).setCell ⟨W.heap.size, 2, none⟩ (.int .i64 y3)).setCell ⟨W.heap.size, 3, none⟩ (.int .i64 y4)) = U at *
  refine bodyPost_ret (v := .tuple #[.agg #[.int .i64 y1, .int .i64 y2, .int .i64 y3, .int .i64 y4], .int .i64 0]) (by simp [results, z0, z1, z2, z3, Try.results62, go_sem]) rfl ⟨rfl, BZ.out⟩
set_option maxRecDepth 100000 in
theorem lplc {W : World} {p : Nat} {m t sd : Int} (hs : Word sd) {n q1 c1 q2 c2 q3 c3 q4 c4 : Nat} (h : Sk W p m t sd n q1 c1 q2 c2 q3 c3 q4 c4) (n1 : 16 ≤ n) (n2 : n ≤ 65536) (k : ByteArray) (hk : k.size ≤ maxLen) :
    Calls Try.prog 34 #[.pointer (some ⟨p, 0, none⟩), .string k, pv (sumN sd k) n] W fun e w' => e = .returned (.bool true) ∧ Below W.heap.size W w' := by
  have HP := Lib.hid (fun (w : World) (hb : Below W.heap.size W w) => pPlaces hs (h.below hb) n1 n2 k hk)
  clear h hs
  unfold pv at *
  generalize ((sumN sd k % n : Nat) : Int) = y1 at *
  generalize ((sumN sd k / 65536 % n : Nat) : Int) = y2 at *
  generalize ((sumN sd k / 65536 / 65536 % n : Nat) : Int) = y3 at *
  generalize ((sumN sd k / 65536 / 65536 / 65536 % n : Nat) : Int) = y4 at *
  have ha := fun w => arr4 w y1 y2 y3 y4
  go_enter Try.func34, Try.ntmps34
  go_wp2_with fail
  refine (HP.out _ (by go_grown)).mono ?_
  rintro e w1 ⟨rfl, b1⟩
  have B1 := Lib.hid (show Below W.heap.size W w1 from tr (by go_grown) b1)
  have hbx := box_at b1
  have a0 : w1.cell? ⟨W.heap.size, 0, none⟩ = some (.int .i64 y1) := by unfold World.cell?; rw [hbx]; rfl
  have a1 : w1.cell? ⟨W.heap.size, 1, none⟩ = some (.int .i64 y2) := by unfold World.cell?; rw [hbx]; rfl
  have a2 : w1.cell? ⟨W.heap.size, 2, none⟩ = some (.int .i64 y3) := by unfold World.cell?; rw [hbx]; rfl
  have a3 : w1.cell? ⟨W.heap.size, 3, none⟩ = some (.int .i64 y4) := by unfold World.cell?; rw [hbx]; rfl
  have hs1 := b1.size
  simp only [World.size_alloc] at hs1
  have hlt : W.heap.size < w1.heap.size := by omega
  clear b1 hbx
  go_wp2_with fail
  go_ret
  exact ⟨rfl, by first | exact B1.out | exact tr B1.out (by go_grown)⟩
end Go.Proofs.Ytohldfhelppehaa.Skt
