/-
  ControlTexts (layer 5): the texts of a group.
-/
import Derived.Test.YtngdbkegebmonaaDoorTxtW
import Derived.Test.YtngdbkegebmonaaDoorCtlV
import Derived.Test.YtngdbkegebmonaaDoorJoin
import Derived.Lib.BufferMore
set_option linter.unusedVariables false
set_option linter.unusedSimpArgs false
namespace Go.Proofs.YtngdbkegebmonaaDoor.Num
open Go.RowKit Kit Go.Sort
theorem dec_len (u : Nat) (hu : u < 256) : (dec u).size ≤ 3 := by
  have h : ∀ v < 256, Lib.nDigits v ≤ 3 := by decide +kernel
  show (Lib.decDigits u).toArray.size ≤ 3
  rw [List.size_toArray, Lib.decDigits_length]
  exact h u hu
theorem ltx_len (u : Nat) (hu : u < 256) : (ltx u).size ≤ 3 := by
  unfold ltx
  split
  · decide
  · split
    · decide
    · exact dec_len u hu
/-- the texts of the first lanes -/
def catT (c : Nat → Nat) : Nat → ByteArray
  | 0 => ⟨#[]⟩
  | 1 => ltx (c 0)
  | j + 2 => catT c (j + 1) ++ ⟨#[32]⟩ ++ ltx (c (j + 1))
def lxs (c : Nat → Nat) : List ByteArray := [ltx (c 0), ltx (c 1), ltx (c 2), ltx (c 3), ltx (c 4), ltx (c 5), ltx (c 6), ltx (c 7)]
theorem cat8 (c : Nat → Nat) : (⟨(Lib.join ((lxs c).map (·.data.toList)) [32]).toArray⟩ : ByteArray) = catT c 8 := by
  apply ByteArray.ext
  apply Array.toList_inj.1
  simp [Lib.join, lxs, catT, List.intercalate, List.intersperse]
theorem join_len (c : Nat → Nat) (hc : ∀ i, c i < 256) : (Lib.join ((lxs c).map (·.data.toList)) [32]).length ≤ 140737488355328 := by
  have h : ∀ i, (ltx (c i)).size ≤ 3 := fun i => ltx_len _ (hc i)
  have h0 := h 0; have h1 := h 1; have h2 := h 2; have h3 := h 3; have h4 := h 4; have h5 := h 5; have h6 := h 6; have h7 := h 7
  simp [Lib.join, lxs, List.intercalate, List.intersperse]
  omega
/-- the array of texts, the first j laid -/
def arr (c : Nat → Nat) (j : Nat) : Array Value := (Array.range 8).map fun i => Value.string (if i < j then ltx (c i) else ⟨#[]⟩)
theorem arr_zero (c : Nat → Nat) : arr c 0 = #[.string ⟨#[]⟩, .string ⟨#[]⟩, .string ⟨#[]⟩, .string ⟨#[]⟩, .string ⟨#[]⟩, .string ⟨#[]⟩, .string ⟨#[]⟩, .string ⟨#[]⟩] := by
  have h : Array.range 8 = #[0, 1, 2, 3, 4, 5, 6, 7] := by decide
  simp [arr, h]
theorem arr_set (c : Nat → Nat) (j : Nat) : (arr c j).setIfInBounds j (.string (ltx (c j))) = arr c (j + 1) := by
  apply Array.ext (by simp [arr])
  intro i h1 h2
  simp only [arr, Array.size_setIfInBounds, Array.size_map, Array.size_range] at h1
  have hs : i < (arr c j).size := by simp [arr]; exact h1
  rw [Array.getElem_setIfInBounds hs]
  by_cases e : j = i
  · subst e; simp [arr]
  · simp only [e, if_false]
    simp only [arr, Array.getElem_map, Array.getElem_range]
    congr 1
    by_cases h : i < j
    · rw [if_pos h, if_pos (by omega)]
    · rw [if_neg h, if_neg (by omega)]
set_option maxRecDepth 100000 in
set_option maxHeartbeats 2000000 in
theorem text_ok (x : Int) (hx : Ctl.U64 x) (hv : Ctl.vaB x = true) (c : Nat → Nat) (hc : ∀ i, c i < 256) (hl : ∀ i, Word.lane x i = (c i : Int)) (w : World) (htab : Tabs w) :
    Calls Tryd.prog 26 #[.int .u64 x] w fun e w' => e = .returned (.tuple #[.string (catT c 8), .int .i64 0]) ∧ Below w.heap.size w w' := by
  have HV := Lib.hid (hv ▸ Ctl.valid_any x hx)
  have HB := Lib.hid (Word.bytes_any x hx.1 hx.2)
  unfold Word.lanes at HB
  simp only [hl] at HB
  have HL := Lib.hid (fun (i : Nat) (w1 : World) (b : Below w.heap.size w w1) => laneText_any (c i) (hc i) w1 (htab.below b))
  clear hv hx htab hl
  go_enter Tryd.func26, Tryd.ntmps26
  go_wp2_with fail
  refine (HV.out _).mono ?_
  rintro e w1 ⟨rfl, rfl⟩
  go_wp2_with fail
  refine (HB.out _).mono ?_
  rintro e w2 ⟨rfl, b2⟩
  go_wp2_with fail
  go_loopw [5, 6, 12] (fun u v i wr => ∃ j : Nat, j ≤ 8 ∧ i = .int .i64 j ∧ (∃ T, wr.heap[w.heap.size]? = some (.cells (arr c j) T (0, 0))) ∧ Below w.heap.size w wr) (fun _ _ i _ => 8 - (intOf i).toNat)
  case atStart =>
    refine ⟨0, by omega, rfl, ⟨52, ?_⟩, tr (by go_grown) b2⟩
    rw [b2.block _ (by simp)]
    rw [arr_zero]
    exact (MapKept.heap_alloc w _).1
  case round =>
    obtain ⟨j, hj, rfl, ⟨T, hp⟩, bW⟩ := hrel
    have hps : w.heap.size < wr.heap.size := (Array.getElem?_eq_some_iff.1 hp).1
    by_cases hlt : j < 8
    · have k0 : ∀ w3, Below wr.heap.size wr w3 → w3.heap[w.heap.size]? = some (.cells (arr c j) T (0, 0)) := fun w3 b => (b.block _ hps).trans hp
      have HK0 := Lib.hid k0
      have HA := Lib.hid (arr_set c j)
      clear k0 hp
      obtain rfl | rfl | rfl | rfl | rfl | rfl | rfl | rfl : j = 0 ∨ j = 1 ∨ j = 2 ∨ j = 3 ∨ j = 4 ∨ j = 5 ∨ j = 6 ∨ j = 7 := by omega
      · have hix : ∀ w, (Instr.index 44 (.agg #[.int .u8 (c 0), .int .u8 (c 1), .int .u8 (c 2), .int .u8 (c 3), .int .u8 (c 4), .int .u8 (c 5), .int .u8 (c 6), .int .u8 (c 7)]) (.int .i64 0)).run Tryd.prog w = .ok (.int .u8 (c 0)) w := fun w => by simp [Instr.index, asIntOf, run_underlying Tryd.underlying44, Tryd.sizeOf5, part, Tryd.isAgg5]
        go_wp2_with fail
        refine (HL.out 0 _ bW).mono ?_
        rintro e w3 ⟨rfl, b3⟩
        have hp3 := HK0.out w3 b3
        have kc : w3.cell? ⟨w.heap.size, 0, none⟩ = some (.string ⟨#[]⟩) := by simp [World.cell?, hp3, arr]
        have kf : w3.frozen? ⟨w.heap.size, 0, none⟩ = false := by simp [World.frozen?, hp3]
        have HP3 := Lib.hid hp3
        clear hp3
        go_wp2_with fail
        go_roundw
        case rel => exact ⟨1, by omega, rfl, ⟨T, by rw [Lib.heap_setCell_same HP3.out, HA.out]⟩, (tr bW b3).setCell (p := ⟨w.heap.size, 0, none⟩) (Nat.le_refl _) _⟩
        case measure => simp [intOf]
      · have hix : ∀ w, (Instr.index 44 (.agg #[.int .u8 (c 0), .int .u8 (c 1), .int .u8 (c 2), .int .u8 (c 3), .int .u8 (c 4), .int .u8 (c 5), .int .u8 (c 6), .int .u8 (c 7)]) (.int .i64 1)).run Tryd.prog w = .ok (.int .u8 (c 1)) w := fun w => by simp [Instr.index, asIntOf, run_underlying Tryd.underlying44, Tryd.sizeOf5, part, Tryd.isAgg5]
        go_wp2_with fail
        refine (HL.out 1 _ bW).mono ?_
        rintro e w3 ⟨rfl, b3⟩
        have hp3 := HK0.out w3 b3
        have kc : w3.cell? ⟨w.heap.size, 1, none⟩ = some (.string ⟨#[]⟩) := by simp [World.cell?, hp3, arr]
        have kf : w3.frozen? ⟨w.heap.size, 1, none⟩ = false := by simp [World.frozen?, hp3]
        have HP3 := Lib.hid hp3
        clear hp3
        go_wp2_with fail
        go_roundw
        case rel => exact ⟨2, by omega, rfl, ⟨T, by rw [Lib.heap_setCell_same HP3.out, HA.out]⟩, (tr bW b3).setCell (p := ⟨w.heap.size, 1, none⟩) (Nat.le_refl _) _⟩
        case measure => simp [intOf]
      · have hix : ∀ w, (Instr.index 44 (.agg #[.int .u8 (c 0), .int .u8 (c 1), .int .u8 (c 2), .int .u8 (c 3), .int .u8 (c 4), .int .u8 (c 5), .int .u8 (c 6), .int .u8 (c 7)]) (.int .i64 2)).run Tryd.prog w = .ok (.int .u8 (c 2)) w := fun w => by simp [Instr.index, asIntOf, run_underlying Tryd.underlying44, Tryd.sizeOf5, part, Tryd.isAgg5]
        go_wp2_with fail
        refine (HL.out 2 _ bW).mono ?_
        rintro e w3 ⟨rfl, b3⟩
        have hp3 := HK0.out w3 b3
        have kc : w3.cell? ⟨w.heap.size, 2, none⟩ = some (.string ⟨#[]⟩) := by simp [World.cell?, hp3, arr]
        have kf : w3.frozen? ⟨w.heap.size, 2, none⟩ = false := by simp [World.frozen?, hp3]
        have HP3 := Lib.hid hp3
        clear hp3
        go_wp2_with fail
        go_roundw
        case rel => exact ⟨3, by omega, rfl, ⟨T, by rw [Lib.heap_setCell_same HP3.out, HA.out]⟩, (tr bW b3).setCell (p := ⟨w.heap.size, 2, none⟩) (Nat.le_refl _) _⟩
        case measure => simp [intOf]
      · have hix : ∀ w, (Instr.index 44 (.agg #[.int .u8 (c 0), .int .u8 (c 1), .int .u8 (c 2), .int .u8 (c 3), .int .u8 (c 4), .int .u8 (c 5), .int .u8 (c 6), .int .u8 (c 7)]) (.int .i64 3)).run Tryd.prog w = .ok (.int .u8 (c 3)) w := fun w => by simp [Instr.index, asIntOf, run_underlying Tryd.underlying44, Tryd.sizeOf5, part, Tryd.isAgg5]
        go_wp2_with fail
        refine (HL.out 3 _ bW).mono ?_
        rintro e w3 ⟨rfl, b3⟩
        have hp3 := HK0.out w3 b3
        have kc : w3.cell? ⟨w.heap.size, 3, none⟩ = some (.string ⟨#[]⟩) := by simp [World.cell?, hp3, arr]
        have kf : w3.frozen? ⟨w.heap.size, 3, none⟩ = false := by simp [World.frozen?, hp3]
        have HP3 := Lib.hid hp3
        clear hp3
        go_wp2_with fail
        go_roundw
        case rel => exact ⟨4, by omega, rfl, ⟨T, by rw [Lib.heap_setCell_same HP3.out, HA.out]⟩, (tr bW b3).setCell (p := ⟨w.heap.size, 3, none⟩) (Nat.le_refl _) _⟩
        case measure => simp [intOf]
      · have hix : ∀ w, (Instr.index 44 (.agg #[.int .u8 (c 0), .int .u8 (c 1), .int .u8 (c 2), .int .u8 (c 3), .int .u8 (c 4), .int .u8 (c 5), .int .u8 (c 6), .int .u8 (c 7)]) (.int .i64 4)).run Tryd.prog w = .ok (.int .u8 (c 4)) w := fun w => by simp [Instr.index, asIntOf, run_underlying Tryd.underlying44, Tryd.sizeOf5, part, Tryd.isAgg5]
        go_wp2_with fail
        refine (HL.out 4 _ bW).mono ?_
        rintro e w3 ⟨rfl, b3⟩
        have hp3 := HK0.out w3 b3
        have kc : w3.cell? ⟨w.heap.size, 4, none⟩ = some (.string ⟨#[]⟩) := by simp [World.cell?, hp3, arr]
        have kf : w3.frozen? ⟨w.heap.size, 4, none⟩ = false := by simp [World.frozen?, hp3]
        have HP3 := Lib.hid hp3
        clear hp3
        go_wp2_with fail
        go_roundw
        case rel => exact ⟨5, by omega, rfl, ⟨T, by rw [Lib.heap_setCell_same HP3.out, HA.out]⟩, (tr bW b3).setCell (p := ⟨w.heap.size, 4, none⟩) (Nat.le_refl _) _⟩
        case measure => simp [intOf]
      · have hix : ∀ w, (Instr.index 44 (.agg #[.int .u8 (c 0), .int .u8 (c 1), .int .u8 (c 2), .int .u8 (c 3), .int .u8 (c 4), .int .u8 (c 5), .int .u8 (c 6), .int .u8 (c 7)]) (.int .i64 5)).run Tryd.prog w = .ok (.int .u8 (c 5)) w := fun w => by simp [Instr.index, asIntOf, run_underlying Tryd.underlying44, Tryd.sizeOf5, part, Tryd.isAgg5]
        go_wp2_with fail
        refine (HL.out 5 _ bW).mono ?_
        rintro e w3 ⟨rfl, b3⟩
        have hp3 := HK0.out w3 b3
        have kc : w3.cell? ⟨w.heap.size, 5, none⟩ = some (.string ⟨#[]⟩) := by simp [World.cell?, hp3, arr]
        have kf : w3.frozen? ⟨w.heap.size, 5, none⟩ = false := by simp [World.frozen?, hp3]
        have HP3 := Lib.hid hp3
        clear hp3
        go_wp2_with fail
        go_roundw
        case rel => exact ⟨6, by omega, rfl, ⟨T, by rw [Lib.heap_setCell_same HP3.out, HA.out]⟩, (tr bW b3).setCell (p := ⟨w.heap.size, 5, none⟩) (Nat.le_refl _) _⟩
        case measure => simp [intOf]
      · have hix : ∀ w, (Instr.index 44 (.agg #[.int .u8 (c 0), .int .u8 (c 1), .int .u8 (c 2), .int .u8 (c 3), .int .u8 (c 4), .int .u8 (c 5), .int .u8 (c 6), .int .u8 (c 7)]) (.int .i64 6)).run Tryd.prog w = .ok (.int .u8 (c 6)) w := fun w => by simp [Instr.index, asIntOf, run_underlying Tryd.underlying44, Tryd.sizeOf5, part, Tryd.isAgg5]
        go_wp2_with fail
        refine (HL.out 6 _ bW).mono ?_
        rintro e w3 ⟨rfl, b3⟩
        have hp3 := HK0.out w3 b3
        have kc : w3.cell? ⟨w.heap.size, 6, none⟩ = some (.string ⟨#[]⟩) := by simp [World.cell?, hp3, arr]
        have kf : w3.frozen? ⟨w.heap.size, 6, none⟩ = false := by simp [World.frozen?, hp3]
        have HP3 := Lib.hid hp3
        clear hp3
        go_wp2_with fail
        go_roundw
        case rel => exact ⟨7, by omega, rfl, ⟨T, by rw [Lib.heap_setCell_same HP3.out, HA.out]⟩, (tr bW b3).setCell (p := ⟨w.heap.size, 6, none⟩) (Nat.le_refl _) _⟩
        case measure => simp [intOf]
      · have hix : ∀ w, (Instr.index 44 (.agg #[.int .u8 (c 0), .int .u8 (c 1), .int .u8 (c 2), .int .u8 (c 3), .int .u8 (c 4), .int .u8 (c 5), .int .u8 (c 6), .int .u8 (c 7)]) (.int .i64 7)).run Tryd.prog w = .ok (.int .u8 (c 7)) w := fun w => by simp [Instr.index, asIntOf, run_underlying Tryd.underlying44, Tryd.sizeOf5, part, Tryd.isAgg5]
        go_wp2_with fail
        refine (HL.out 7 _ bW).mono ?_
        rintro e w3 ⟨rfl, b3⟩
        have hp3 := HK0.out w3 b3
        have kc : w3.cell? ⟨w.heap.size, 7, none⟩ = some (.string ⟨#[]⟩) := by simp [World.cell?, hp3, arr]
        have kf : w3.frozen? ⟨w.heap.size, 7, none⟩ = false := by simp [World.frozen?, hp3]
        have HP3 := Lib.hid hp3
        clear hp3
        go_wp2_with fail
        go_roundw
        case rel => exact ⟨8, by omega, rfl, ⟨T, by rw [Lib.heap_setCell_same HP3.out, HA.out]⟩, (tr bW b3).setCell (p := ⟨w.heap.size, 7, none⟩) (Nat.le_refl _) _⟩
        case measure => simp [intOf]
    · obtain rfl : j = 8 := by omega
      have hcells : ∀ (j : Nat) y, (lxs c)[j]? = some y → wr.cell? ⟨w.heap.size, 0 + j, none⟩ = some (.string y) := by
        intro j y hy
        have hj8 : j < 8 := by have := (List.getElem?_eq_some_iff.1 hy).1; simpa [lxs] using this
        obtain rfl | rfl | rfl | rfl | rfl | rfl | rfl | rfl : j = 0 ∨ j = 1 ∨ j = 2 ∨ j = 3 ∨ j = 4 ∨ j = 5 ∨ j = 6 ∨ j = 7 := by omega
        all_goals (simp [lxs] at hy; subst hy; simp [World.cell?, hp, arr])
      have HJ := Lib.hid (Any.strings_Join_many Join.lays Join.extra w.heap.size 0 8 (lxs c) ⟨#[32]⟩ wr hcells hps (by simp [lxs]) (by simp [lxs]) (by simp [lxs]) (join_len c hc))
      clear hcells
      go_wp2_with fail
      refine HJ.out.mono ?_
      rintro e w4 ⟨rfl, b4⟩
      go_wp2_with fail
      go_ret2
      refine ⟨?_, tr bW b4⟩
      rw [show (⟨(Lib.join ((lxs c).map (·.data.toList)) (⟨#[32]⟩ : ByteArray).data.toList).toArray⟩ : ByteArray) = catT c 8 from cat8 c]
      rfl
end Go.Proofs.YtngdbkegebmonaaDoor.Num
