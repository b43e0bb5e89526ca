/-
  Walks over layer 33: counts.
-/
import Derived.Test.YtohldfhelppehaaSkR
set_option linter.unusedVariables false
set_option linter.unusedSimpArgs false
namespace Go.Proofs.Ytohldfhelppehaa.Skt
open Go.RowKit Kit Hash Blo
theorem Sk.rw1 {w : World} {p : Nat} {m t sd : Int} {n q1 c1 q2 c2 q3 c3 q4 c4 : Nat} (h : Sk w p m t sd n q1 c1 q2 c2 q3 c3 q4 c4) : w.cell? ⟨p, 5, none⟩ = some (.slice (some ⟨q1, 0, none⟩) n c1) ∧ w.cell? ⟨p, 6, none⟩ = some (.slice (some ⟨q2, 0, none⟩) n c2) ∧ w.cell? ⟨p, 7, none⟩ = some (.slice (some ⟨q3, 0, none⟩) n c3) ∧ w.cell? ⟨p, 8, none⟩ = some (.slice (some ⟨q4, 0, none⟩) n c4) := by
  refine ⟨?_, ?_, ?_, ?_⟩ <;> (unfold World.cell?; rw [show w.heap[p]? = _ from h]; rfl)
theorem ix4 (w : World) (y1 y2 y3 y4 : Int) :
    (Instr.index 71 (.agg #[.int .i64 y1, .int .i64 y2, .int .i64 y3, .int .i64 y4]) (.int .i64 0)).run Try.prog w = .ok (.int .i64 y1) w ∧
    (Instr.index 71 (.agg #[.int .i64 y1, .int .i64 y2, .int .i64 y3, .int .i64 y4]) (.int .i64 1)).run Try.prog w = .ok (.int .i64 y2) w ∧
    (Instr.index 71 (.agg #[.int .i64 y1, .int .i64 y2, .int .i64 y3, .int .i64 y4]) (.int .i64 2)).run Try.prog w = .ok (.int .i64 y3) w ∧
    (Instr.index 71 (.agg #[.int .i64 y1, .int .i64 y2, .int .i64 y3, .int .i64 y4]) (.int .i64 3)).run Try.prog w = .ok (.int .i64 y4) w := by
  refine ⟨?_, ?_, ?_, ?_⟩ <;> simp [Instr.index, run_underlying Try.underlying71, part, isAgg, go_sem]
/-- the count, from the places and the rows -/
def cn (x n : Nat) (f1 f2 f3 f4 : Nat → Nat) : Nat := min (min (min (min 15 (f1 (x % n))) (f2 (x / 65536 % n))) (f3 (x / 65536 / 65536 % n))) (f4 (x / 65536 / 65536 / 65536 % n))
set_option maxRecDepth 100000 in
set_option maxHeartbeats 2000000 in
theorem pcount {W : World} {p : Nat} {m t sd : Int} (hs : Word sd) {n q1 c1 q2 c2 q3 c3 q4 c4 : Nat} (h : Sk W p m t sd n q1 c1 q2 c2 q3 c3 q4 c4) (n1 : 16 ≤ n) (n2 : n ≤ 65536) {f1 f2 f3 f4 : Nat → Nat} (h1 : Pr W q1 n f1) (h2 : Pr W q2 n f2) (h3 : Pr W q3 n f3) (h4 : Pr W q4 n f4) (k : ByteArray) (hk : k.size ≤ maxLen) :
    Calls Try.prog 44 #[.pointer (some ⟨p, 0, none⟩), .string k] W fun e w' => e = .returned (.int .i64 (cn (sumN sd k) n f1 f2 f3 f4 : Nat)) ∧ Below W.heap.size W w' := by
  have HZ := Lib.hid (isz h n1)
  have HP := Lib.hid (pplc hs h n1 n2 k hk)
  have HS := Lib.hid h
  have hp := h.lt
  have HC := Lib.hid (show cn (sumN sd k) n f1 f2 f3 f4 = min (min (min (min 15 (f1 (sumN sd k % n))) (f2 (sumN sd k / 65536 % n))) (f3 (sumN sd k / 65536 / 65536 % n))) (f4 (sumN sd k / 65536 / 65536 / 65536 % n)) from rfl)
  unfold pv at HP
  have l1 := Nat.mod_lt (sumN sd k) (show n > 0 by omega)
  have l2 := Nat.mod_lt (sumN sd k / 65536) (show n > 0 by omega)
  have l3 := Nat.mod_lt (sumN sd k / 65536 / 65536) (show n > 0 by omega)
  have l4 := Nat.mod_lt (sumN sd k / 65536 / 65536 / 65536) (show n > 0 by omega)
  generalize sumN sd k % n = y1 at *
  generalize sumN sd k / 65536 % n = y2 at *
  generalize sumN sd k / 65536 / 65536 % n = y3 at *
  generalize sumN sd k / 65536 / 65536 / 65536 % n = y4 at *
  have H1 := Lib.hid h1
  have H2 := Lib.hid h2
  have H3 := Lib.hid h3
  have H4 := Lib.hid h4
  clear h h1 h2 h3 h4
  go_enter Try.func44, Try.ntmps44
  go_wp2_with fail
  refine HZ.out.mono ?_
  rintro e w1 ⟨rfl, rfl⟩
  go_wp2_with fail
  refine HP.out.mono ?_
  rintro e w1 ⟨rfl, b1⟩
  have i0 := fun w => (ix4 w y1 y2 y3 y4).1
  have i1 := fun w => (ix4 w y1 y2 y3 y4).2.1
  have i2 := fun w => (ix4 w y1 y2 y3 y4).2.2.1
  have i3 := fun w => (ix4 w y1 y2 y3 y4).2.2.2
  obtain ⟨d5, d6, d7, d8⟩ := (HS.out.below b1).rw1
  have k1 := (Row.below H1.out b1).cell y1 l1
  have k2 := (Row.below H2.out b1).cell y2 l2
  have k3 := (Row.below H3.out b1).cell y3 l3
  have k4 := (Row.below H4.out b1).cell y4 l4
  generalize f1 y1 = z1 at *
  generalize f2 y2 = z2 at *
  generalize f3 y3 = z3 at *
  generalize f4 y4 = z4 at *
  generalize hm1 : min 15 z1 = u1 at *
  generalize hm2 : min u1 z2 = u2 at *
  generalize hm3 : min u2 z3 = u3 at *
  generalize hm4 : min u3 z4 = u4 at *
  have e1 : min (15 : Int) (z1 : Int) = u1 := by omega
  have e2 : min (u1 : Int) (z2 : Int) = u2 := by omega
  have e3 : min (u2 : Int) (z3 : Int) = u3 := by omega
  have e4 : min (u3 : Int) (z4 : Int) = u4 := by omega
  have hu : u4 ≤ 15 := by omega
  clear hm1 hm2 hm3 hm4
  have hwu : IntKind.i64.wrap (u4 : Int) = u4 := IntWalk.i64_in _ (by omega)
  go_wp2_with fail
  refine wp_loop_rounds 5 ?_
  repeat any_goals (rw [rounds_succ]; go_wp2_with fail)
  all_goals go_ret
  all_goals (refine ⟨Kit.ret_int ?_, b1⟩; rw [HC.out]; omega)
end Go.Proofs.Ytohldfhelppehaa.Skt
