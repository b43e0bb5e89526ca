/-
  Walks over layer 33: the reference's counts; sketches of the reference in variables.
-/
import Derived.Test.YtohldfhelppehaaSkQ
set_option linter.unusedVariables false
set_option linter.unusedSimpArgs false
namespace Go.Proofs.Ytohldfhelppehaa.Skt
open Go.RowKit Kit Hash Blo
/-- the place in a row, from the sum -/
def pl4 (x n : Nat) : Nat → Nat
  | 0 => x % n
  | 1 => x / 65536 % n
  | 2 => x / 65536 / 65536 % n
  | _ => x / 65536 / 65536 / 65536 % n
theorem pl4_lt (x : Nat) {n : Nat} (h : 0 < n) (r : Nat) : pl4 x n r < n := by
  rcases r with _ | _ | _ | r
  · exact Nat.mod_lt _ h
  · exact Nat.mod_lt _ h
  · exact Nat.mod_lt _ h
  · exact Nat.mod_lt _ h
theorem ixg (w : World) (x n r : Nat) (hr : r < 4) : (Instr.index 71 (pv x n) (.int .i64 r)).run Try.prog w = .ok (.int .i64 (pl4 x n r : Nat)) w := by
  have h := ix4 w ((x % n : Nat) : Int) ((x / 65536 % n : Nat) : Int) ((x / 65536 / 65536 % n : Nat) : Int) ((x / 65536 / 65536 / 65536 % n : Nat) : Int)
  rcases r with _ | _ | _ | _ | r
  · exact h.1
  · exact h.2.1
  · exact h.2.2.1
  · exact h.2.2.2
  · omega
theorem four {P : Nat → Prop} (h0 : P 0) (h1 : P 1) (h2 : P 2) (h3 : P 3) : ∀ i, i < 4 → P i := fun i hi => by
  rcases i with _ | _ | _ | _ | i
  · exact h0
  · exact h1
  · exact h2
  · exact h3
  · omega
theorem pv_pl4 (x n : Nat) : pv x n = .agg #[.int .i64 (pl4 x n 0 : Nat), .int .i64 (pl4 x n 1 : Nat), .int .i64 (pl4 x n 2 : Nat), .int .i64 (pl4 x n 3 : Nat)] := rfl
/-- the least of the first r counters -/
def cnt (G : Nat → Nat) : Nat → Nat
  | 0 => 15
  | r + 1 => min (cnt G r) (G r)
theorem cnt_le (G : Nat → Nat) : ∀ r, cnt G r ≤ 15
  | 0 => Nat.le_refl _
  | r + 1 => Nat.le_trans (Nat.min_le_left _ _) (cnt_le G r)
/-- the count of a key -/
def cK (x n : Nat) (F : Nat → Nat → Nat) : Nat := cnt (fun r => F r (pl4 x n r)) 4
theorem cn_cK (x n : Nat) (F : Nat → Nat → Nat) : cn x n (F 0) (F 1) (F 2) (F 3) = cK x n F := rfl
/-- block b is a variable that holds a sketch of the reference -/
def Bs (w : World) (b n : Nat) (m t sd : Int) (r c : Nat → Nat) : Prop := w.heap[b]? = some (.cells #[.int .i64 n, .int .i64 m, .int .i64 t, .int .u64 sd, .slice (some ⟨r 0, 0, none⟩) n (c 0), .slice (some ⟨r 1, 0, none⟩) n (c 1), .slice (some ⟨r 2, 0, none⟩) n (c 2), .slice (some ⟨r 3, 0, none⟩) n (c 3)] 62)
theorem Bs.lt {w : World} {b n : Nat} {m t sd : Int} {r c : Nat → Nat} (h : Bs w b n m t sd r c) : b < w.heap.size := (Array.getElem?_eq_some_iff.1 h).1
theorem Bs.of {w w' : World} {b n : Nat} {m t sd : Int} {r c : Nat → Nat} (h : Bs w b n m t sd r c) (e : w'.heap[b]? = w.heap[b]?) : Bs w' b n m t sd r c := e.trans h
theorem Bs.below {w w' : World} {b n : Nat} {m t sd : Int} {r c : Nat → Nat} (h : Bs w b n m t sd r c) (hb : Below w.heap.size w w') : Bs w' b n m t sd r c := h.of (hb.block b h.lt)
theorem Bs.c0 {w : World} {b n : Nat} {m t sd : Int} {r c : Nat → Nat} (h : Bs w b n m t sd r c) : w.cell? ⟨b, 0, none⟩ = some (.int .i64 n) := by unfold World.cell?; rw [show w.heap[b]? = _ from h]; rfl
theorem Bs.c1 {w : World} {b n : Nat} {m t sd : Int} {r c : Nat → Nat} (h : Bs w b n m t sd r c) : w.cell? ⟨b, 1, none⟩ = some (.int .i64 m) := by unfold World.cell?; rw [show w.heap[b]? = _ from h]; rfl
theorem Bs.c2 {w : World} {b n : Nat} {m t sd : Int} {r c : Nat → Nat} (h : Bs w b n m t sd r c) : w.cell? ⟨b, 2, none⟩ = some (.int .i64 t) := by unfold World.cell?; rw [show w.heap[b]? = _ from h]; rfl
theorem Bs.c3 {w : World} {b n : Nat} {m t sd : Int} {r c : Nat → Nat} (h : Bs w b n m t sd r c) : w.cell? ⟨b, 3, none⟩ = some (.int .u64 sd) := by unfold World.cell?; rw [show w.heap[b]? = _ from h]; rfl
theorem Bs.row {w : World} {b n : Nat} {m t sd : Int} {r c : Nat → Nat} (h : Bs w b n m t sd r c) {i : Nat} (hi : i < 4) : w.cell? ⟨b, 4 + i, none⟩ = some (.slice (some ⟨r i, 0, none⟩) n (c i)) := by
  unfold World.cell?; rw [show w.heap[b]? = _ from h]
  rcases i with _ | _ | _ | _ | i
  · rfl
  · rfl
  · rfl
  · rfl
  · omega
theorem Bs.r0 {w : World} {b n : Nat} {m t sd : Int} {r c : Nat → Nat} (h : Bs w b n m t sd r c) : w.cell? ⟨b, 4, none⟩ = some (.slice (some ⟨r 0, 0, none⟩) n (c 0)) := h.row (i := 0) (by decide)
theorem Bs.r1 {w : World} {b n : Nat} {m t sd : Int} {r c : Nat → Nat} (h : Bs w b n m t sd r c) : w.cell? ⟨b, 5, none⟩ = some (.slice (some ⟨r 1, 0, none⟩) n (c 1)) := h.row (i := 1) (by decide)
theorem Bs.r2 {w : World} {b n : Nat} {m t sd : Int} {r c : Nat → Nat} (h : Bs w b n m t sd r c) : w.cell? ⟨b, 6, none⟩ = some (.slice (some ⟨r 2, 0, none⟩) n (c 2)) := h.row (i := 2) (by decide)
theorem Bs.r3 {w : World} {b n : Nat} {m t sd : Int} {r c : Nat → Nat} (h : Bs w b n m t sd r c) : w.cell? ⟨b, 7, none⟩ = some (.slice (some ⟨r 3, 0, none⟩) n (c 3)) := h.row (i := 3) (by decide)
theorem Bs.fr {w : World} {b n : Nat} {m t sd : Int} {r c : Nat → Nat} (h : Bs w b n m t sd r c) (o : Nat) : w.frozen? ⟨b, o, none⟩ = false := by unfold World.frozen?; rw [show w.heap[b]? = _ from h]; rfl
/-- the value of such a variable -/
def skv (n : Nat) (m t sd : Int) (r c : Nat → Nat) : Value := sk n m t sd n (r 0) (c 0) (r 1) (c 1) (r 2) (c 2) (r 3) (c 3)
/-- the rows of the reference -/
def Rw (w : World) (r : Nat → Nat) (n : Nat) (F : Nat → Nat → Nat) : Prop := ∀ i, i < 4 → Sr w (r i) n (F i)
theorem Rw.below {w w' : World} {r : Nat → Nat} {n : Nat} {F : Nat → Nat → Nat} (h : Rw w r n F) (hb : Below w.heap.size w w') : Rw w' r n F := fun i hi => Row.below (h i hi) hb
set_option maxRecDepth 100000 in
set_option maxHeartbeats 2000000 in
theorem rcount {W : World} {m t sd : Int} (hs : Word sd) {n : Nat} {r c : Nat → Nat} (n1 : 16 ≤ n) (n2 : n ≤ 65536) {F : Nat → Nat → Nat} (h : Rw W r n F) (hF : ∀ r i, F r i ≤ 15) (k : ByteArray) (hk : k.size ≤ maxLen) :
    Calls Try.prog 61 #[skv n m t sd r c, .string k] W fun e w' => e = .returned (.int .i64 (cK (sumN sd k) n F : Nat)) ∧ Below W.heap.size W w' := by
  have HP := Lib.hid (fun w => rplc (W := w) (m := m) (t := t) hs (r1 := r 0) (c1 := c 0) (r2 := r 1) (c2 := c 1) (r3 := r 2) (c3 := c 2) (r4 := r 3) (c4 := c 3) n1 n2 k hk)
  have HC := Lib.hid (show cK (sumN sd k) n F = cnt (fun r => F r (pl4 (sumN sd k) n r)) 4 from rfl)
  have HPL := Lib.hid (pl4_lt (sumN sd k) (show 0 < n by omega))
  have H := Lib.hid h
  have HF := Lib.hid hF
  simp only [pv_pl4] at HP
  unfold skv sk at *
  generalize sumN sd k = x at *
  generalize pl4 x n = y at *
  clear hs hF
  go_enter Try.func61, Try.ntmps61
  go_wp2_with fail
  refine (HP.out _).mono ?_
  rintro e w1 ⟨rfl, b1⟩
  have B1 := Lib.hid (show Below W.heap.size W w1 from tr (by go_grown) b1)
  have hs1 := b1.size
  simp only [World.size_alloc] at hs1
  have hlt : W.heap.size < w1.heap.size := by omega
  have BX := Lib.hid (show Bs w1 W.heap.size n m t sd r c by unfold Bs; rw [b1.block W.heap.size (by simp)]; exact (MapKept.heap_alloc _ _).1)
  clear b1
  go_wp2_with fail
  have RY := Lib.hid (show Row (w1.alloc (.cells #[.int .i64 (y 0 : Nat), .int .i64 (y 1 : Nat), .int .i64 (y 2 : Nat), .int .i64 (y 3 : Nat)] 71)) w1.heap.size 4 71 (fun i => .int .i64 (y i : Nat)) from Row.new _ _ _ 4 _ (Nat.le_refl 4) (four rfl rfl rfl rfl))
  have BV := Lib.hid (show Below w1.heap.size w1 (w1.alloc (.cells #[.int .i64 (y 0 : Nat), .int .i64 (y 1 : Nat), .int .i64 (y 2 : Nat), .int .i64 (y 3 : Nat)] 71)) by go_grown)
  generalize w1.alloc (.cells #[.int .i64 (y 0 : Nat), .int .i64 (y 1 : Nat), .int .i64 (y 2 : Nat), .int .i64 (y 3 : Nat)] 71) = V at *
  have HV := Lib.hid (h.below (tr B1.out BV.out))
  have BVX := Lib.hid (BX.out.below BV.out)
  have BW := Lib.hid (tr B1.out BV.out)
  clear BX B1 BV h
  go_loopw [6, 7] (fun a i wr => ∃ j : Nat, j ≤ 4 ∧ i = .int .i64 j ∧ a = .int .i64 (cnt (fun r => F r (y r)) j : Nat) ∧ Below V.heap.size V wr) (fun _ i _ => 4 - (intOf i).toNat)
  case atStart => exact ⟨0, by omega, rfl, rfl, Below.refl _ _⟩
  case round =>
    obtain ⟨j, hj, rfl, rfl, bW⟩ := hrel
    have HB := Lib.hid bW
    by_cases hlt : j < 4
    · have k1 := (BVX.out.below bW).row hlt
      have k2 := (Row.below RY.out bW).cell j hlt
      have k3 := Row.cell (HV.out.below bW j hlt) (y j) (HPL.out j)
      have hmn : min ((cnt (fun r => F r (y r)) j : Nat) : Int) ((F j (y j) : Nat) : Int) = (cnt (fun r => F r (y r)) (j + 1) : Nat) := by
        show _ = ((min (cnt (fun r => F r (y r)) j) (F j (y j)) : Nat) : Int)
        omega
      have hf := HF.out j (y j)
      have hyl := HPL.out j
      generalize cnt (fun r => F r (y r)) j = a0 at *
      generalize F j (y j) = z at *
      generalize y j = yj at *
      clear bW
      go_wp2_with fail
      go_quiet (fail)
      go_wp2_with fail
      go_roundw
      case rel => exact ⟨j + 1, by omega, by go_num, congrArg (Value.int .i64) (by rw [← hmn]; split <;> omega), below_drewN HB.out _⟩
      case measure => simp [intOf] <;> omega
    · obtain rfl : j = 4 := by omega
      clear bW
      go_wp2_with fail
      go_ret
      exact ⟨by rw [HC.out]; rfl, tr BW.out HB.out⟩
end Go.Proofs.Ytohldfhelppehaa.Skt
