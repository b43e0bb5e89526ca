/-
  The calls of the laws of layer 34: how many, and how long their keys are.
-/
import Derived.Test.YtohldfhelppehaaBloF
set_option linter.unusedVariables false
set_option linter.unusedSimpArgs false
namespace Go.Proofs.Ytohldfhelppehaa.Blo
open Go.RowKit Kit Hash
/-- the calls: what and key -/
def Acts (w : World) (a : Option Addr) (len : Nat) (f0 : Nat → Int) (f1 : Nat → ByteArray) : Prop := ∀ i, i < len → ∃ x, a = some x ∧ x.block < w.heap.size ∧ w.cell? (x.add (i * 2)) = some (.int .i64 (f0 i)) ∧ w.cell? ⟨(x.add (i * 2)).block, (x.add (i * 2)).off + 1, none⟩ = some (.string (f1 i)) ∧ (f1 i).size ≤ maxLen
theorem add_pos (x : Addr) (m k : Nat) (hk : k ≠ 0) : x.add (m + k) = ⟨(x.add m).block, (x.add m).off + k, none⟩ := by
  unfold Addr.add
  by_cases h1 : m = 0
  · subst h1; simp [hk]
  · simp [h1, hk, Nat.add_assoc]
theorem add_block (x : Addr) (m : Nat) : (x.add m).block = x.block := by unfold Addr.add; split <;> rfl
theorem cell_lt {w : World} {x : Addr} {v : Value} (h : w.cell? x = some v) : x.block < w.heap.size := by
  rcases Nat.lt_or_ge x.block w.heap.size with h' | h'
  · exact h'
  · simp [World.cell?, Array.getElem?_eq_none h'] at h
theorem acts_of {w : World} {a : Option Addr} {len cap : Nat} (h : (a = none ∧ len = 0) ∨ ∃ x, a = some x ∧ len ≤ cap ∧ cap ≤ maxLen ∧ ∀ i, i < len → ∃ (z0 : Int) (z1 : ByteArray), w.cell? (x.add (i * 2 + 0)) = some (.int .i64 z0) ∧ w.cell? (x.add (i * 2 + 1)) = some (.string z1) ∧ (Lit.int .i64 z0).wf = true ∧ z1.size ≤ maxLen) :
    ∃ f0 f1, Acts w a len f0 f1 := by
  rcases h with ⟨-, rfl⟩ | ⟨x, rfl, -, -, h⟩
  · exact ⟨fun _ => 0, fun _ => ⟨#[]⟩, fun i hi => by omega⟩
  · have h' : ∀ i : Nat, ∃ p : Int × ByteArray, i < len → x.block < w.heap.size ∧ w.cell? (x.add (i * 2)) = some (.int .i64 p.1) ∧ w.cell? ⟨(x.add (i * 2)).block, (x.add (i * 2)).off + 1, none⟩ = some (.string p.2) ∧ p.2.size ≤ maxLen := fun i => by
      by_cases hi : i < len
      · obtain ⟨z0, z1, h0, h1, -, h2⟩ := h i hi
        rw [add_pos x _ 1 (by decide)] at h1
        rw [Nat.add_zero] at h0
        have := cell_lt h0
        rw [add_block] at this
        exact ⟨(z0, z1), fun _ => ⟨this, h0, h1, h2⟩⟩
      · exact ⟨(0, ⟨#[]⟩), fun hh => absurd hh hi⟩
    refine ⟨fun i => (h' i).choose.1, fun i => (h' i).choose.2, fun i hi => ?_⟩
    exact ⟨x, rfl, (h' i).choose_spec hi⟩
theorem Acts.below {w w' : World} {a : Option Addr} {len : Nat} {f0 : Nat → Int} {f1 : Nat → ByteArray} (h : Acts w a len f0 f1) (hb : Below w.heap.size w w') : Acts w' a len f0 f1 := fun i hi => by
  obtain ⟨x, h0, h1, h2, h3, h4⟩ := h i hi
  refine ⟨x, h0, by have := hb.size; omega, ?_, ?_, h4⟩
  · rw [hb.cell (by rw [add_block]; exact h1)]; exact h2
  · rw [hb.cell (by show (x.add (i * 2)).block < _; rw [add_block]; exact h1)]; exact h3
def fewB (len : Nat) (most : Int) (f1 : Nat → ByteArray) : Bool := decide ((len : Int) ≤ most) && (List.range len).all fun i => decide ((f1 i).size ≤ 300)
theorem fewB_spec {len : Nat} {most : Int} {f1 : Nat → ByteArray} (h : fewB len most f1 = true) : (len : Int) ≤ most ∧ ∀ i, i < len → (f1 i).size ≤ 300 := by
  unfold fewB at h
  simp only [Bool.and_eq_true, decide_eq_true_eq, List.all_eq_true, List.mem_range] at h
  exact h
set_option maxRecDepth 100000 in
set_option maxHeartbeats 1000000 in
theorem few_any {W : World} {a : Option Addr} {len cap : Nat} {f0 : Nat → Int} {f1 : Nat → ByteArray} (h : Acts W a len f0 f1) (most : Int) (hm : most ≤ 1000) :
    Calls Try.prog 21 #[.slice a len cap, .int .i64 most] W fun e w' => e = .returned (.bool (fewB len most f1)) ∧ Below W.heap.size W w' := by
  have HA := Lib.hid h
  clear h
  by_cases hl : most < (len : Int)
  · have hf : fewB len most f1 = false := by
      have : decide ((len : Int) ≤ most) = false := by simp; omega
      unfold fewB; rw [this]; rfl
    rw [hf]
    clear hf
    go_enter Try.func21, Try.ntmps21
    go_wp2_with fail
    go_ret
    exact ⟨rfl, Below.refl _ _⟩
  · have hd : decide ((len : Int) ≤ most) = true := by simp; omega
    have HFEW := Lib.hid (show fewB len most f1 = (List.range len).all fun i => decide ((f1 i).size ≤ 300) by unfold fewB; rw [hd]; rfl)
    clear hd
    go_enter Try.func21, Try.ntmps21
    go_wp2_with fail
    go_loopw [5] (fun i wr => ∃ j : Nat, j ≤ len ∧ i = .int .i64 j ∧ (∀ k, k < j → (f1 k).size ≤ 300) ∧ W = wr) (fun i _ => len - (intOf i).toNat)
    case atStart => exact ⟨0, by omega, rfl, fun k hk => by omega, rfl⟩
    case round =>
      obtain ⟨j, hj, rfl, hall, rfl⟩ := hrel
      have HALL := Lib.hid hall
      clear hall
      by_cases hlt : j < len
      · obtain ⟨x, rfl, hxb, y0, y1, y2⟩ := HA.out j hlt
        clear y0
        generalize hz : f1 j = z at *
        have HZ := Lib.hid hz
        clear hz
        unfold maxLen at y2
        by_cases h3 : 300 < z.size
        · go_wp2_with fail
          go_ret
          refine ⟨ret_bool ?_, Below.refl _ _⟩
          rw [HFEW.out]
          symm
          rw [List.all_eq_false]
          exact ⟨j, List.mem_range.2 hlt, by rw [HZ.out]; simp; omega⟩
        · go_wp2_with fail
          go_roundw
          case rel => exact ⟨j + 1, by omega, by go_num, fun k hk => by
            rcases Nat.lt_or_ge k j with h4 | h4
            · exact HALL.out k h4
            · obtain rfl : k = j := by omega
              rw [HZ.out]; omega, trivial⟩
          case measure => simp [intOf] <;> omega
      · obtain rfl : j = len := by omega
        go_wp2_with fail
        go_ret
        refine ⟨ret_bool ?_, Below.refl _ _⟩
        rw [HFEW.out]
        symm
        rw [List.all_eq_true]
        intro i hi
        have := HALL.out i (List.mem_range.1 hi)
        simpa using this
end Go.Proofs.Ytohldfhelppehaa.Blo
