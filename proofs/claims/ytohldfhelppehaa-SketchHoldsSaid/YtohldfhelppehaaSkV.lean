/-
  Walks over package sketch (layer 33): new sketches.
-/
import Derived.Test.YtohldfhelppehaaSkW
set_option linter.unusedVariables false
set_option linter.unusedSimpArgs false
namespace Go.Proofs.Ytohldfhelppehaa.Skt
open Go.RowKit Kit Hash Blo
/-- the object of a sketch -/
def fO (b m t sd : Int) (n q1 c1 q2 c2 q3 c3 q4 c4 : Nat) : Obj := .cells #[.int .i64 b, .int .i64 m, .int .i64 t, .int .u64 sd, .bool false, .slice (some ⟨q1, 0, none⟩) n c1, .slice (some ⟨q2, 0, none⟩) n c2, .slice (some ⟨q3, 0, none⟩) n c3, .slice (some ⟨q4, 0, none⟩) n c4] 105
/-- a row of counters -/
def Pr (w : World) (r n : Nat) (f : Nat → Nat) : Prop := Row w r n 5 (fun i => .int .u8 (f i : Nat))
def pO (n : Nat) : Obj := .cells (madeCells #[.int .u8 0] n) 5
theorem Pr.new (W : World) (n : Nat) : Pr (W.alloc (pO n)) W.heap.size n (fun _ => 0) := Row.made W (.int .u8 0) rfl n 5
def five (w1 : World) (o : Obj) (n : Nat) : World := (((((w1.alloc o).alloc (pO n)).alloc (pO n)).alloc (pO n)).alloc (pO n)).drew.drew.drew.drew
theorem first5 {w1 : World} {n : Nat} (o : Obj) : (five w1 o n).heap[w1.heap.size]? = some o := by
  have h0 := (MapKept.heap_alloc w1 o).1
  have h1 := (Below.heap_alloc (w1.alloc o) (pO n) w1.heap.size (by simp)).trans h0
  have h2 := (Below.heap_alloc ((w1.alloc o).alloc (pO n)) (pO n) w1.heap.size (by simp; omega)).trans h1
  have h3 := (Below.heap_alloc (((w1.alloc o).alloc (pO n)).alloc (pO n)) (pO n) w1.heap.size (by simp; omega)).trans h2
  exact (Below.heap_alloc ((((w1.alloc o).alloc (pO n)).alloc (pO n)).alloc (pO n)) (pO n) w1.heap.size (by simp; omega)).trans h3
theorem prow_a {w1 : World} {o : Obj} {n ρ : Nat} (h : ρ = w1.heap.size + 1) : Pr (five w1 o n) ρ n (fun _ => 0) := by subst h; rw [← World.size_alloc w1 o]; exact Row.of_block (Row.alloc (Row.alloc (Row.alloc (Pr.new _ n) _) _) _) rfl
theorem prow_b {w1 : World} {o : Obj} {n ρ : Nat} (h : ρ = w1.heap.size + 1 + 1) : Pr (five w1 o n) ρ n (fun _ => 0) := by subst h; rw [← World.size_alloc w1 o, ← World.size_alloc (w1.alloc o) (pO n)]; exact Row.of_block (Row.alloc (Row.alloc (Pr.new _ n) _) _) rfl
theorem prow_c {w1 : World} {o : Obj} {n ρ : Nat} (h : ρ = w1.heap.size + 1 + 1 + 1) : Pr (five w1 o n) ρ n (fun _ => 0) := by subst h; rw [← World.size_alloc w1 o, ← World.size_alloc (w1.alloc o) (pO n), ← World.size_alloc ((w1.alloc o).alloc (pO n)) (pO n)]; exact Row.of_block (Row.alloc (Pr.new _ n) _) rfl
theorem prow_d {w1 : World} {o : Obj} {n ρ : Nat} (h : ρ = w1.heap.size + 1 + 1 + 1 + 1) : Pr (five w1 o n) ρ n (fun _ => 0) := by subst h; rw [← World.size_alloc w1 o, ← World.size_alloc (w1.alloc o) (pO n), ← World.size_alloc ((w1.alloc o).alloc (pO n)) (pO n), ← World.size_alloc (((w1.alloc o).alloc (pO n)).alloc (pO n)) (pO n)]; exact Row.of_block (Pr.new _ n) rfl
theorem and_pow16 (i : Nat) (hi : i ≤ 12) : bits .and .i64 ((16 * 2 ^ i : Nat) : Int) (((16 * 2 ^ i : Nat) : Int) - 1) = 0 := by
  have hp : 2 ^ i ≤ 2 ^ 12 := Nat.pow_le_pow_right (by decide) (by omega)
  have hp1 : 1 ≤ 2 ^ i := Nat.one_le_two_pow
  rw [show (((16 * 2 ^ i : Nat) : Int) - 1) = ((16 * 2 ^ i - 1 : Nat) : Int) by omega, i64_and_nat _ _ (by omega) (by omega)]
  rw [show 16 * 2 ^ i = 2 ^ (i + 4) by rw [Nat.pow_add]; omega, Nat.and_two_pow_sub_one_eq_mod, Nat.mod_self]; rfl
theorem not_pow16 {b : Int} (h : pwS b 13 = false) (h1 : 16 ≤ b) (h2 : b ≤ 65536) : (bits .and .i64 b (b - 1) != 0) = true := by
  obtain ⟨n, rfl⟩ := Int.eq_ofNat_of_zero_le (show 0 ≤ b by omega)
  rw [bne_iff_ne]
  intro h0
  rw [show ((n : Int) - 1) = ((n - 1 : Nat) : Int) by omega, i64_and_nat _ _ (by omega) (by omega)] at h0
  obtain ⟨k, hk⟩ := pow_of_and (b := n) (by omega) (by omega)
  have hk6 : 4 ≤ k := by
    rcases Nat.lt_or_ge k 4 with h3 | h3
    · have := Nat.pow_le_pow_right (n := 2) (by decide) (show k ≤ 3 by omega)
      omega
    · exact h3
  have hk20 : k ≤ 16 := by
    rcases Nat.lt_or_ge 16 k with h3 | h3
    · have := Nat.pow_le_pow_right (n := 2) (by decide) (show 17 ≤ k by omega)
      omega
    · exact h3
  have : pwS (n : Int) 13 = true := pwS_of (i := k - 4) (by rw [hk]; congr 1; rw [show 16 = 2 ^ 4 from rfl, ← Nat.pow_add]; congr 1; omega) (by omega)
  rw [h] at this; cases this
set_option maxRecDepth 100000 in
theorem pnew_bad {b m sd : Int} (h : als b m = false) (w : World) :
    Calls Try.prog 32 #[.int .i64 b, .int .u64 sd, .int .i64 m] w fun e w' => e = .returned (.tuple #[.pointer none, .int .i64 2]) ∧ Below w.heap.size w w' := by
  by_cases h1 : b < 16
  · go_enter Try.func32, Try.ntmps32
    go_wp2_with fail
    go_ret2
    exact ⟨rfl, by go_grown⟩
  by_cases h2 : 65536 < b
  · go_enter Try.func32, Try.ntmps32
    go_wp2_with fail
    go_ret2
    exact ⟨rfl, by go_grown⟩
  cases hp : pwS b 13
  · have hn := not_pow16 hp (by omega) (by omega)
    go_enter Try.func32, Try.ntmps32
    go_wp2_with fail
    go_ret2
    exact ⟨rfl, by go_grown⟩
  · obtain ⟨i, hi, hbi⟩ := pwS_ok hp
    have hn := and_pow16 i (by omega)
    rw [← hbi] at hn
    have hh : m < 0 ∨ 16777216 < m := by
      unfold als at h; rw [hp] at h
      by_cases a : m < 0
      · exact .inl a
      · by_cases c : 16777216 < m
        · exact .inr c
        · have e1 : decide (0 ≤ m) = true := by simp; omega
          have e2 : decide (m ≤ 16777216) = true := by simp; omega
          rw [e1, e2] at h; cases h
    clear h hbi hp
    rcases hh with h3 | h3
    · go_enter Try.func32, Try.ntmps32
      go_wp2_with fail
      go_ret2
      exact ⟨rfl, by go_grown⟩
    · by_cases h4 : m < 0
      · omega
      · go_enter Try.func32, Try.ntmps32
        go_wp2_with fail
        go_ret2
        exact ⟨rfl, by go_grown⟩
set_option maxRecDepth 100000 in
set_option maxHeartbeats 1000000 in
theorem pnew_ok {b m sd : Int} (h : als b m = true) (w : World) :
    Calls Try.prog 32 #[.int .i64 b, .int .u64 sd, .int .i64 m] w fun e w' => ∃ p q1 q2 q3 q4, e = .returned (.tuple #[.pointer (some ⟨p, 0, none⟩), .int .i64 0]) ∧ w'.heap[p]? = some (fO b m 0 sd b.toNat q1 b.toNat q2 b.toNat q3 b.toNat q4 b.toNat) ∧ Pr w' q1 b.toNat (fun _ => 0) ∧ Pr w' q2 b.toNat (fun _ => 0) ∧ Pr w' q3 b.toNat (fun _ => 0) ∧ Pr w' q4 b.toNat (fun _ => 0) ∧ w.heap.size ≤ p ∧ p < q1 ∧ q1 < q2 ∧ q2 < q3 ∧ q3 < q4 ∧ Below w.heap.size w w' := by
  unfold als at h
  simp only [Bool.and_eq_true, decide_eq_true_eq] at h
  obtain ⟨⟨hp, h0⟩, h1⟩ := h
  obtain ⟨i, hi, hbi⟩ := pwS_ok hp
  have hn := and_pow16 i (by omega)
  rw [← hbi] at hn
  have hpi : 2 ^ i ≤ 2 ^ 12 := Nat.pow_le_pow_right (by decide) (by omega)
  have hp1 : 1 ≤ 2 ^ i := Nat.one_le_two_pow
  have hq0 : 16 ≤ b := by omega
  have hq1 : b ≤ 65536 := by omega
  have hmk := fun w => make_any (P := Try.prog) w 102 5 (.int .u8 0) 1 1 (by kernel_rfl) (by kernel_rfl) b (by omega) (by omega) (by omega)
  clear hbi hpi hp1 hp
  go_enter Try.func32, Try.ntmps32
  go_wp2_with fail
  refine (Hash.new_any sd false _).mono ?_
  rintro e w1 ⟨rfl, b1⟩
  have B1 := Lib.hid b1
  have hs1 := b1.size
  clear b1
  go_wp2_with fail
  refine wp_loop_rounds 5 ?_
  iterate 4
    rw [rounds_succ]
    go_wp2_with fail
    go_region_with fail
    go_wp2_with fail
  rw [rounds_succ]
  go_wp2_with fail
  go_ret2
  exact ⟨w1.heap.size, w1.heap.size + 1, w1.heap.size + 1 + 1, w1.heap.size + 1 + 1 + 1, w1.heap.size + 1 + 1 + 1 + 1, rfl, first5 _, prow_a rfl, prow_b rfl, prow_c rfl, prow_d rfl, by omega, by omega, by omega, by omega, by omega, tr B1.out (by go_grown)⟩
end Go.Proofs.Ytohldfhelppehaa.Skt
