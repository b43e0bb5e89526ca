/-
  Walks over the laws of layer 6 (probe): index, known, ProbeAt, ProbeAll, ProbeIndex.
-/
import Derived.Test.YtdilhldaipjhoaaProbeI
namespace Go.Proofs.Ytdilhldaipjhoaa.Probe
open Go.RowKit Kit GrowM Grow Go.Shelf

/-- both Indexes give one index and one error -/
theorem index_both (p : Int) (g : Int) (t : Int) (p0 : 0 ≤ p) (p1 : p ≤ 18446744073709551615) : ∃ n c : Int,
    (∀ w, Calls Try.prog 37 #[.int .u64 p, .int .i64 g, .int .i64 t] w fun e w' => e = .returned (.tuple #[.int .i64 n, .int .i64 c]) ∧ Below w.heap.size w w') ∧
    (∀ w, Calls Try.prog 20 #[.int .u64 p, .int .i64 g, .int .i64 t] w fun e w' => e = .returned (.tuple #[.int .i64 n, .int .i64 c]) ∧ Below w.heap.size w w') ∧
    0 ≤ c ∧ c ≤ 3 := by
  cases hg : pow2 g
  · exact ⟨0, 2, Index_bad p g t hg, rIndex_bad p g t hg, by decide, by decide⟩
  · by_cases ht : 0 ≤ t ∧ t < g
    · obtain ⟨a1, a2⟩ := pow2_range _ hg
      obtain ⟨gn, rfl⟩ := Int.eq_ofNat_of_zero_le (by omega : 0 ≤ g)
      obtain ⟨i, hi, hat, hu⟩ := at_onto p gn hg p0 t ht.1 ht.2
      have hno : ∀ j : Nat, j < i → atI p gn j ≠ t := fun j hj h => by have := hu j (by omega) h; omega
      exact ⟨i, 0, Index_ok p gn hg t ht.1 ht.2 i hi hat hno, rIndex_ok p gn hg p0 p1 t ht.1 ht.2 i hi hat hno, by decide, by decide⟩
    · exact ⟨0, 3, Index_out p g t hg ht, rIndex_out p g t hg ht, by decide, by decide⟩
theorem index_true (p g t n c : Int) (H : ∀ w, Calls Try.prog 37 #[.int .u64 p, .int .i64 g, .int .i64 t] w fun e w' => e = .returned (.tuple #[.int .i64 n, .int .i64 c]) ∧ Below w.heap.size w w') (w : World) :
    Calls Try.prog 21 #[.int .u64 p, .int .i64 g, .int .i64 t, .int .i64 n, .int .i64 c] w fun e w' => e = .returned (.bool true) ∧ Below w.heap.size w w' := by
  have HH := Lib.hid H
  clear H
  go_enter Try.func21, Try.ntmps21
  go_wp2_with fail
  refine (HH.out _).mono ?_
  rintro e w1 ⟨rfl, b1⟩
  go_wp2_with fail
  go_ret
  exact ⟨ret_bool (by simp), b1⟩
theorem lit_cells (w : World) (l : List Int) (t : TypeId) (j : Nat) (hj : j < l.length) : (w.alloc (.cells (l.map (Value.int .i64)).toArray t)).cell? ⟨w.heap.size, j, none⟩ = some (.int .i64 l[j]) := by
  simp only [World.cell?]
  rw [(MapKept.heap_alloc w _).1]
  simp [hj]
theorem lawall_lit (p : Int) (g : Nat) (hgp : pow2 (g : Int) = true) (cap : Nat) (t : TypeId) (vs : Array Value) (hv : vs = ((seqI p g g).map (Value.int .i64)).toArray) (w : World) :
    Calls Try.prog 18 #[.int .u64 p, .int .i64 (g : Int), .slice (some ⟨w.heap.size, 0, none⟩) g cap, .int .i64 0] (w.alloc (.cells vs t)) fun e w' => e = .returned (.bool true) ∧ Below w.heap.size w w' := by
  subst hv
  refine (lawall_ok p g hgp w.heap.size cap _ (by simp) (fun j hj => lit_cells w _ t j hj)).mono ?_
  rintro e w' ⟨h, b⟩
  exact ⟨h, (by go_grown : Below w.heap.size w (w.alloc _)).trans (b.mono (by simp))⟩
theorem at_lit (p g i n c : Int) (H : ∀ w, Calls Try.prog 23 #[.int .u64 p, .int .i64 g, .int .i64 i] w fun e w' => e = .returned (.tuple #[.int .i64 n, .int .i64 c]) ∧ w = w') (w : World) :
    Calls Try.prog 16 #[.int .u64 p, .int .i64 g, .int .i64 i, .int .i64 n, .int .i64 c] w fun e w' => e = .returned (.bool true) ∧ w = w' := at_true p g i n c H w
theorem idx_lit (p : Int) (g : Nat) (hg : pow2 (g : Int) = true) (t : Int) (t0 : 0 ≤ t) (t1 : t < g) (i : Nat) (hi : i < g) (ht : atI p g i = t) (hno : ∀ j : Nat, j < i → atI p g j ≠ t) (w : World) :
    Calls Try.prog 21 #[.int .u64 p, .int .i64 (g : Int), .int .i64 t, .int .i64 (i : Int), .int .i64 0] w fun e w' => e = .returned (.bool true) ∧ Below w.heap.size w w' :=
  index_true p g t i 0 (fun w => Index_ok p g hg t t0 t1 i hi ht hno w) w
theorem known_any (w : World) :
    Calls Try.prog 17 #[] w fun e w' => e = .returned (.bool true) ∧ Below w.heap.size w w' := by
  have A1 : Hid (∀ w : World, Calls Try.prog 18 #[.int .u64 3, .int .i64 8, .slice (some ⟨w.heap.size, 0, none⟩) 8 8, .int .i64 0] (w.alloc (.cells #[.int .i64 3, .int .i64 4, .int .i64 6, .int .i64 1, .int .i64 5, .int .i64 2, .int .i64 0, .int .i64 7] 3)) fun e w' => e = .returned (.bool true) ∧ Below w.heap.size w w') :=
    Lib.hid (lawall_lit 3 8 (by decide) 8 3 #[.int .i64 3, .int .i64 4, .int .i64 6, .int .i64 1, .int .i64 5, .int .i64 2, .int .i64 0, .int .i64 7] (by kernel_rfl))
  have A2 : Hid (∀ w : World, Calls Try.prog 18 #[.int .u64 9, .int .i64 1, .slice (some ⟨w.heap.size, 0, none⟩) 1 1, .int .i64 0] (w.alloc (.cells #[.int .i64 0] 3)) fun e w' => e = .returned (.bool true) ∧ Below w.heap.size w w') :=
    Lib.hid (lawall_lit 9 1 (by decide) 1 3 #[.int .i64 0] (by kernel_rfl))
  have B0 : Hid (∀ w : World, Calls Try.prog 16 #[.int .u64 3, .int .i64 8, .int .i64 0, .int .i64 3, .int .i64 0] w fun e w' => e = .returned (.bool true) ∧ w = w') :=
    Lib.hid (at_lit 3 8 0 3 0 (fun w => At_ok 3 8 0 (by decide) (by decide) (by decide) w))
  have B1 : Hid (∀ w : World, Calls Try.prog 16 #[.int .u64 3, .int .i64 8, .int .i64 3, .int .i64 1, .int .i64 0] w fun e w' => e = .returned (.bool true) ∧ w = w') :=
    Lib.hid (at_lit 3 8 3 1 0 (fun w => At_ok 3 8 3 (by decide) (by decide) (by decide) w))
  have B2 : Hid (∀ w : World, Calls Try.prog 16 #[.int .u64 3, .int .i64 8, .int .i64 8, .int .i64 0, .int .i64 3] w fun e w' => e = .returned (.bool true) ∧ w = w') :=
    Lib.hid (at_lit 3 8 8 0 3 (fun w => At_index 3 8 8 (by decide) (by decide) w))
  have B3 : Hid (∀ w : World, Calls Try.prog 16 #[.int .u64 11, .int .i64 8, .int .i64 3, .int .i64 1, .int .i64 0] w fun e w' => e = .returned (.bool true) ∧ w = w') :=
    Lib.hid (at_lit 11 8 3 1 0 (fun w => At_ok 11 8 3 (by decide) (by decide) (by decide) w))
  have C0 : Hid (∀ w : World, Calls Try.prog 21 #[.int .u64 3, .int .i64 8, .int .i64 2, .int .i64 5, .int .i64 0] w fun e w' => e = .returned (.bool true) ∧ Below w.heap.size w w') :=
    Lib.hid (idx_lit 3 8 (by decide) 2 (by decide) (by decide) 5 (by decide) (by decide) (by decide))
  have C1 : Hid (∀ w : World, Calls Try.prog 21 #[.int .u64 3, .int .i64 8, .int .i64 7, .int .i64 7, .int .i64 0] w fun e w' => e = .returned (.bool true) ∧ Below w.heap.size w w') :=
    Lib.hid (idx_lit 3 8 (by decide) 7 (by decide) (by decide) 7 (by decide) (by decide) (by decide))
  have C2 : Hid (∀ w : World, Calls Try.prog 21 #[.int .u64 3, .int .i64 8, .int .i64 8, .int .i64 0, .int .i64 3] w fun e w' => e = .returned (.bool true) ∧ Below w.heap.size w w') :=
    Lib.hid (index_true 3 8 8 0 3 (fun w => Index_out 3 8 8 (by decide) (by decide) w))
  have D0 : Hid (∀ w : World, Calls Try.prog 14 #[.int .i64 1] w fun e w' => e = .returned (.bool true) ∧ w = w') :=
    Lib.hid (fun w => (valid_any 1 w).mono (by rintro e w' ⟨rfl, h⟩; exact ⟨ret_bool (by decide), h⟩))
  have D1 : Hid (∀ w : World, Calls Try.prog 14 #[.int .i64 0] w fun e w' => e = .returned (.bool false) ∧ w = w') :=
    Lib.hid (fun w => (valid_any 0 w).mono (by rintro e w' ⟨rfl, h⟩; exact ⟨ret_bool (by decide), h⟩))
  have D2 : Hid (∀ w : World, Calls Try.prog 14 #[.int .i64 6] w fun e w' => e = .returned (.bool false) ∧ w = w') :=
    Lib.hid (fun w => (valid_any 6 w).mono (by rintro e w' ⟨rfl, h⟩; exact ⟨ret_bool (by decide), h⟩))
  have D3 : Hid (∀ w : World, Calls Try.prog 14 #[.int .i64 1048576] w fun e w' => e = .returned (.bool true) ∧ w = w') :=
    Lib.hid (fun w => (valid_any 1048576 w).mono (by rintro e w' ⟨rfl, h⟩; exact ⟨ret_bool (by decide), h⟩))
  have D4 : Hid (∀ w : World, Calls Try.prog 14 #[.int .i64 2097152] w fun e w' => e = .returned (.bool false) ∧ w = w') :=
    Lib.hid (fun w => (valid_any 2097152 w).mono (by rintro e w' ⟨rfl, h⟩; exact ⟨ret_bool (by decide), h⟩))
  go_enter Try.func17, Try.ntmps17
  go_wp2_with fail
  refine (A1.out _).mono ?_
  rintro e w1 ⟨rfl, b1⟩
  go_wp2_with fail
  refine (B0.out _).mono ?_
  rintro e w2 ⟨rfl, rfl⟩
  go_wp2_with fail
  refine (B1.out _).mono ?_
  rintro e w2 ⟨rfl, rfl⟩
  go_wp2_with fail
  refine (B2.out _).mono ?_
  rintro e w2 ⟨rfl, rfl⟩
  go_wp2_with fail
  refine (B3.out _).mono ?_
  rintro e w2 ⟨rfl, rfl⟩
  go_wp2_with fail
  refine (C0.out _).mono ?_
  rintro e c0 ⟨rfl, bc0⟩
  go_wp2_with fail
  refine (C1.out _).mono ?_
  rintro e c1 ⟨rfl, bc1⟩
  go_wp2_with fail
  refine (C2.out _).mono ?_
  rintro e c2 ⟨rfl, bc2⟩
  go_wp2_with fail
  refine (D0.out _).mono ?_
  rintro e w2 ⟨rfl, rfl⟩
  go_wp2_with fail
  refine (D1.out _).mono ?_
  rintro e w2 ⟨rfl, rfl⟩
  go_wp2_with fail
  refine (D2.out _).mono ?_
  rintro e w2 ⟨rfl, rfl⟩
  go_wp2_with fail
  refine (D3.out _).mono ?_
  rintro e w2 ⟨rfl, rfl⟩
  go_wp2_with fail
  refine (D4.out _).mono ?_
  rintro e w2 ⟨rfl, rfl⟩
  go_wp2_with fail
  refine (A2.out _).mono ?_
  rintro e w9 ⟨rfl, b9⟩
  go_wp2_with fail
  go_ret
  exact ⟨rfl, tr (tr (tr (tr b1 bc0) bc1) bc2) b9⟩
end Go.Proofs.Ytdilhldaipjhoaa.Probe
