/-
  Links (layer 14): LinksIterates, whatever its arguments.
-/
import Derived.Test.YtjcabdnjimcdgaaLnkZb
import Derived.Test.YtjcabdnjimcdgaaArl
set_option linter.unusedVariables false
set_option linter.unusedSimpArgs false
namespace Go.Proofs.Ytjcabdnjimcdgaa.Lnk
open Go Go.RowKit Kit Go.Shelf
attribute [local go_sem] Oper.semAt_some
set_option maxRecDepth 100000 in
theorem literates_far1 {w : World} {N : Int} {m cl : Nat} {pl : Option Addr} {s : Int} (h1 : N < 1) (HKN : Kn w) :
    Calls Try.prog 5 #[.int .i64 N, .slice pl m cl, .int .u8 s] w fun e w' => e = .returned (.bool true) ∧ Below w.heap.size w w' := by
  have HK := Lib.hid HKN
  clear HKN
  refine (callsIn_wide (n := 6)).1 ?_
  refine callsIn_of_wp_marks Try.func5 rfl trivial ?_ rfl
  simp only [Try.ntmps5, List.size_toArray, List.length_cons, List.length_nil, Nat.reduceAdd, Nat.reduceSub, Array.replicate_succ, Array.replicate_zero, List.push_toArray, List.append_toArray, List.nil_append, List.cons_append]
  gi_wp2
  refine ⟨trivial, ?_⟩
  have B0 := Lib.hid (by go_grown : Below w.heap.size w ((w.alloc (.cells #[.int .u8 s] 5)).alloc (.cells #[.bool false] 4)))
  have R0 := Lib.hid (show ((w.alloc (.cells #[.int .u8 s] 5)).alloc (.cells #[.bool false] 4)).heap[w.heap.size + 1]? = some (.cells #[.bool false] 4 (0, 0)) from by simpa using (MapKept.heap_alloc (w.alloc (.cells #[.int .u8 s] 5)) (.cells #[.bool false] 4)).1)
  obtain ⟨V, hV⟩ : ∃ V, (w.alloc (.cells #[.int .u8 s] 5)).alloc (.cells #[.bool false] 4) = V := ⟨_, rfl⟩
  rw [hV] at B0 R0 ⊢
  clear hV
  refine (callsIn_wide.2 (HK.out _ B0.out)).mono ?_
  rintro e w1 ⟨rfl, b1⟩
  have hr1 : w1.heap[w.heap.size + 1]? = some (.cells #[.bool false] 4 (0, 0)) := (b1.block _ (Array.getElem?_eq_some_iff.1 R0.out).1).trans R0.out
  have r1 : w1.cell? ⟨w.heap.size + 1, 0, none⟩ = some (.bool false) := by simp [World.cell?, hr1]
  have f1 : w1.frozen? ⟨w.heap.size + 1, 0, none⟩ = false := by simp [World.frozen?, hr1]
  have B1 := Lib.hid (tr B0.out b1)
  have HR1 := Lib.hid hr1
  clear b1 hr1
  gi_wp2
  have hres := heap_set (j := 0) HR1.out (.bool true)
  have d3 : (w1.setCell ⟨w.heap.size + 1, 0, none⟩ (.bool true)).cell? ⟨w.heap.size + 1, 0, none⟩ = some (.bool true) := by simp [World.cell?, hres]
  exact ⟨.bool true, by simp [results, Try.results5, go_sem, d3], rfl, B1.out.setCell (p := ⟨w.heap.size + 1, 0, none⟩) (by show w.heap.size ≤ w.heap.size + 1; omega) _⟩
set_option maxRecDepth 100000 in
theorem literates_far2 {w : World} {N : Int} {m cl : Nat} {pl : Option Addr} {s : Int} (h1 : ¬ N < 1) (h2 : 60 < N) (HKN : Kn w) :
    Calls Try.prog 5 #[.int .i64 N, .slice pl m cl, .int .u8 s] w fun e w' => e = .returned (.bool true) ∧ Below w.heap.size w w' := by
  have HK := Lib.hid HKN
  clear HKN
  refine (callsIn_wide (n := 6)).1 ?_
  refine callsIn_of_wp_marks Try.func5 rfl trivial ?_ rfl
  simp only [Try.ntmps5, List.size_toArray, List.length_cons, List.length_nil, Nat.reduceAdd, Nat.reduceSub, Array.replicate_succ, Array.replicate_zero, List.push_toArray, List.append_toArray, List.nil_append, List.cons_append]
  gi_wp2
  refine ⟨trivial, ?_⟩
  have B0 := Lib.hid (by go_grown : Below w.heap.size w ((w.alloc (.cells #[.int .u8 s] 5)).alloc (.cells #[.bool false] 4)))
  have R0 := Lib.hid (show ((w.alloc (.cells #[.int .u8 s] 5)).alloc (.cells #[.bool false] 4)).heap[w.heap.size + 1]? = some (.cells #[.bool false] 4 (0, 0)) from by simpa using (MapKept.heap_alloc (w.alloc (.cells #[.int .u8 s] 5)) (.cells #[.bool false] 4)).1)
  obtain ⟨V, hV⟩ : ∃ V, (w.alloc (.cells #[.int .u8 s] 5)).alloc (.cells #[.bool false] 4) = V := ⟨_, rfl⟩
  rw [hV] at B0 R0 ⊢
  clear hV
  refine (callsIn_wide.2 (HK.out _ B0.out)).mono ?_
  rintro e w1 ⟨rfl, b1⟩
  have hr1 : w1.heap[w.heap.size + 1]? = some (.cells #[.bool false] 4 (0, 0)) := (b1.block _ (Array.getElem?_eq_some_iff.1 R0.out).1).trans R0.out
  have r1 : w1.cell? ⟨w.heap.size + 1, 0, none⟩ = some (.bool false) := by simp [World.cell?, hr1]
  have f1 : w1.frozen? ⟨w.heap.size + 1, 0, none⟩ = false := by simp [World.frozen?, hr1]
  have B1 := Lib.hid (tr B0.out b1)
  have HR1 := Lib.hid hr1
  clear b1 hr1
  gi_wp2
  have hres := heap_set (j := 0) HR1.out (.bool true)
  have d3 : (w1.setCell ⟨w.heap.size + 1, 0, none⟩ (.bool true)).cell? ⟨w.heap.size + 1, 0, none⟩ = some (.bool true) := by simp [World.cell?, hres]
  exact ⟨.bool true, by simp [results, Try.results5, go_sem, d3], rfl, B1.out.setCell (p := ⟨w.heap.size + 1, 0, none⟩) (by show w.heap.size ≤ w.heap.size + 1; omega) _⟩
set_option maxRecDepth 100000 in
theorem literates_far3 {w : World} {N : Int} {m cl : Nat} {pl : Option Addr} {s : Int} (h1 : ¬ N < 1) (h2 : ¬ 60 < N) (h3 : (60 : Int) < (m : Int)) (HKN : Kn w) :
    Calls Try.prog 5 #[.int .i64 N, .slice pl m cl, .int .u8 s] w fun e w' => e = .returned (.bool true) ∧ Below w.heap.size w w' := by
  have HK := Lib.hid HKN
  clear HKN
  refine (callsIn_wide (n := 6)).1 ?_
  refine callsIn_of_wp_marks Try.func5 rfl trivial ?_ rfl
  simp only [Try.ntmps5, List.size_toArray, List.length_cons, List.length_nil, Nat.reduceAdd, Nat.reduceSub, Array.replicate_succ, Array.replicate_zero, List.push_toArray, List.append_toArray, List.nil_append, List.cons_append]
  gi_wp2
  refine ⟨trivial, ?_⟩
  have B0 := Lib.hid (by go_grown : Below w.heap.size w ((w.alloc (.cells #[.int .u8 s] 5)).alloc (.cells #[.bool false] 4)))
  have R0 := Lib.hid (show ((w.alloc (.cells #[.int .u8 s] 5)).alloc (.cells #[.bool false] 4)).heap[w.heap.size + 1]? = some (.cells #[.bool false] 4 (0, 0)) from by simpa using (MapKept.heap_alloc (w.alloc (.cells #[.int .u8 s] 5)) (.cells #[.bool false] 4)).1)
  obtain ⟨V, hV⟩ : ∃ V, (w.alloc (.cells #[.int .u8 s] 5)).alloc (.cells #[.bool false] 4) = V := ⟨_, rfl⟩
  rw [hV] at B0 R0 ⊢
  clear hV
  refine (callsIn_wide.2 (HK.out _ B0.out)).mono ?_
  rintro e w1 ⟨rfl, b1⟩
  have hr1 : w1.heap[w.heap.size + 1]? = some (.cells #[.bool false] 4 (0, 0)) := (b1.block _ (Array.getElem?_eq_some_iff.1 R0.out).1).trans R0.out
  have r1 : w1.cell? ⟨w.heap.size + 1, 0, none⟩ = some (.bool false) := by simp [World.cell?, hr1]
  have f1 : w1.frozen? ⟨w.heap.size + 1, 0, none⟩ = false := by simp [World.frozen?, hr1]
  have B1 := Lib.hid (tr B0.out b1)
  have HR1 := Lib.hid hr1
  clear b1 hr1
  gi_wp2
  have hres := heap_set (j := 0) HR1.out (.bool true)
  have d3 : (w1.setCell ⟨w.heap.size + 1, 0, none⟩ (.bool true)).cell? ⟨w.heap.size + 1, 0, none⟩ = some (.bool true) := by simp [World.cell?, hres]
  exact ⟨.bool true, by simp [results, Try.results5, go_sem, d3], rfl, B1.out.setCell (p := ⟨w.heap.size + 1, 0, none⟩) (by show w.heap.size ≤ w.heap.size + 1; omega) _⟩
theorem row_ints {w : World} {p : Option Addr} {n k : Nat} (h : (p = none ∧ n = 0) ∨ ∃ y, p = some y ∧ n ≤ k ∧ k ≤ maxLen ∧ ∀ i, i < n → ∃ z : Int, w.cell? (y.add i) = some (.int .u32 z) ∧ (Lit.int .u32 z).wf = true) : ∃ l : List Int, l.length = n ∧ Ru w p l ∧ (∀ (i : Nat) (x : Int), l[i]? = some x → 0 ≤ x ∧ x < 4294967296) := by
  rcases h with ⟨rfl, rfl⟩ | ⟨y, rfl, h1, h2, h3⟩
  · exact ⟨[], rfl, fun i x hx => by simp at hx, fun i x hx => by simp at hx⟩
  · have h4 : ∀ i, ∃ z : Int, i < n → w.cell? (y.add i) = some (.int .u32 z) ∧ 0 ≤ z ∧ z < 4294967296 := fun i => by
      by_cases hi : i < n
      · obtain ⟨z, e1, e2⟩ := h3 i hi
        have b := Ev.wf_u32 e2
        exact ⟨z, fun _ => ⟨e1, b.1, by omega⟩⟩
      · exact ⟨0, fun h => absurd h hi⟩
    obtain ⟨f, hf⟩ := Classical.axiomOfChoice h4
    have key : ∀ (i : Nat) (x : Int), ((List.range n).map f)[i]? = some x → i < n ∧ f i = x := fun i x hx => by
      rw [List.getElem?_map] at hx
      by_cases hi : i < n
      · rw [List.getElem?_range hi] at hx
        exact ⟨hi, by simpa using hx⟩
      · rw [List.getElem?_eq_none (by simpa using hi)] at hx
        cases hx
    refine ⟨(List.range n).map f, by simp, fun i x hx => ?_, fun i x hx => ?_⟩
    · obtain ⟨hi, rfl⟩ := key i x hx
      have hc := (hf i hi).1
      refine ⟨y, rfl, ?_, hc⟩
      have : (y.add i).block < w.heap.size := by
        unfold World.cell? at hc
        cases hh : w.heap[(y.add i).block]? with
        | none => rw [hh] at hc; cases hc
        | some o => exact (Array.getElem?_eq_some_iff.1 hh).1
      rwa [Lnk.add_block] at this
    · obtain ⟨hi, rfl⟩ := key i x hx
      exact (hf i hi).2
theorem literates_any {w : World} {N : Int} {n c : Nat} {p : Option Addr} {s : Int} (h : (p = none ∧ n = 0) ∨ ∃ y, p = some y ∧ n ≤ c ∧ c ≤ maxLen ∧ ∀ i, i < n → ∃ z : Int, w.cell? (y.add i) = some (.int .u32 z) ∧ (Lit.int .u32 z).wf = true) (hs : 0 ≤ s ∧ s ≤ 255) (HKN : Kn w) :
    Calls Try.prog 5 #[.int .i64 N, .slice p n c, .int .u8 s] w fun e w' => e = .returned (.bool true) ∧ Below w.heap.size w w' := by
  by_cases h1 : N < 1
  · exact literates_far1 h1 HKN
  by_cases h2 : 60 < N
  · exact literates_far2 h1 h2 HKN
  by_cases h3 : 60 < n
  · exact literates_far3 h1 h2 (by omega) HKN
  obtain ⟨l, hl, r, hw⟩ := row_ints h
  obtain ⟨N', rfl⟩ := Int.eq_ofNat_of_zero_le (show 0 ≤ N by omega)
  exact literates_in (by omega) (by omega) hl (by omega) r hw hs HKN
end Go.Proofs.Ytjcabdnjimcdgaa.Lnk
