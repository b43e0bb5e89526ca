/-
  Adaptive replacement (layer 29): a cache's state; what its four lists do.
-/
import Derived.Test.YtggimkfepcgaoaaMgA
set_option linter.unusedVariables false
set_option linter.unusedSimpArgs false
section
namespace Go.Proofs.Ytggimkfepcgaoaa.Arc
open Go Go.RowKit Kit Go.Maps Lnk Gho
/-- the pointer to a list -/
abbrev gp (b : Nat) : Value := .pointer (some ⟨b, 0, none⟩)
/-- a cache at o with the lists b, of keys L -/
structure Ay (w0 v : World) (o K s : Nat) (t : Int) (b : Nat → Nat) (L : Nat → List Nat) (X : Nat → Prop) (col : Nat → Nat) : Prop where
  box : v.heap[o]? = some (.cells #[.int .i64 (s : Int), .int .i64 t, gp (b 0), gp (b 1), gp (b 2), gp (b 3)] 172 (0, 0))
  mg : Mg w0 v K 10000 b L 4 col
  oc : col o = 4
  ol : w0.heap.size ≤ o
  xc : ∀ k, X k → k < v.heap.size ∧ col k = 5
def Ax (w0 v : World) (o K s : Nat) (t : Int) (b : Nat → Nat) (L : Nat → List Nat) (X : Nat → Prop) : Prop := ∃ col, Ay w0 v o K s t b L X col
/-- what a step leaves -/
def AxR (w0 v v' : World) (o K s : Nat) (t : Int) (b : Nat → Nat) (L : Nat → List Nat) (X : Nat → Prop) : Prop := Ax w0 v' o K s t b L X ∧ (∀ k, X k → v'.heap[k]? = v.heap[k]?) ∧ v.heap.size ≤ v'.heap.size
section
variable {w0 v v' : World} {o K s : Nat} {t : Int} {b : Nat → Nat} {L : Nat → List Nat} {X : Nat → Prop} {col : Nat → Nat}
theorem Ay.olt (h : Ay w0 v o K s t b L X col) : o < v.heap.size := (Array.getElem?_eq_some_iff.1 h.box).1
theorem Ax.bl (h : Ax w0 v o K s t b L X) : Below w0.heap.size w0 v := h.choose_spec.mg.bl
theorem Ax.olt (h : Ax w0 v o K s t b L X) : o < v.heap.size := h.choose_spec.olt
theorem Ax.ol (h : Ax w0 v o K s t b L X) : w0.heap.size ≤ o := h.choose_spec.ol
theorem Ax.xlt (h : Ax w0 v o K s t b L X) : ∀ k, X k → k < v.heap.size := fun k hk => (h.choose_spec.xc k hk).1
theorem Ax.xo (h : Ax w0 v o K s t b L X) : ¬ X o := fun hk => by have h1 := (h.choose_spec.xc o hk).2; have h2 := h.choose_spec.oc; omega
theorem Ax.cells (h : Ax w0 v o K s t b L X) : v.cell? ⟨o, 0, none⟩ = some (.int .i64 (s : Int)) ∧ v.cell? ⟨o, 1, none⟩ = some (.int .i64 t) ∧ v.cell? ⟨o, 2, none⟩ = some (gp (b 0)) ∧ v.cell? ⟨o, 3, none⟩ = some (gp (b 1)) ∧ v.cell? ⟨o, 4, none⟩ = some (gp (b 2)) ∧ v.cell? ⟨o, 5, none⟩ = some (gp (b 3)) ∧ ∀ j, v.frozen? ⟨o, j, none⟩ = false := by
  obtain ⟨col, h⟩ := h
  have hb := h.box
  refine ⟨?_, ?_, ?_, ?_, ?_, ?_, fun j => ?_⟩ <;> simp [World.cell?, World.frozen?, hb]
theorem Ax.at4 (h : Ax w0 v o K s t b L X) (i : Nat) (hi : i < 4) : v.cell? ⟨o, 2 + i, none⟩ = some (gp (b i)) := by
  obtain ⟨-, -, h0, h1, h2, h3, -⟩ := h.cells
  match i, hi with
  | 0, _ => exact h0
  | 1, _ => exact h1
  | 2, _ => exact h2
  | 3, _ => exact h3
theorem Ax.only {X' : Nat → Prop} (h : Ax w0 v o K s t b L X) (hX : ∀ k, X' k → X k) : Ax w0 v o K s t b L X' := by
  obtain ⟨col, h⟩ := h
  exact ⟨col, h.box, h.mg, h.oc, h.ol, fun k hk => h.xc k (hX k hk)⟩
theorem Ax.mono {K' : Nat} (h : Ax w0 v o K s t b L X) (hK : K ≤ K') : Ax w0 v o K' s t b L X := by
  obtain ⟨col, h⟩ := h
  exact ⟨col, h.box, h.mg.mono hK, h.oc, h.ol, h.xc⟩
theorem Ax.congr {L' : Nat → List Nat} (h : Ax w0 v o K s t b L X) (e : ∀ i, i < 4 → L' i = L i) : Ax w0 v o K s t b L' X := by
  obtain ⟨col, h⟩ := h
  exact ⟨col, h.box, h.mg.congr e, h.oc, h.ol, h.xc⟩
theorem Ax.nd (h : Ax w0 v o K s t b L X) (i : Nat) (hi : i < 4) : (L i).Nodup := (h.choose_spec.mg.g i hi).nd
theorem Ax.klt (h : Ax w0 v o K s t b L X) (i : Nat) (hi : i < 4) : ∀ k ∈ L i, k < 4294967296 := (h.choose_spec.mg.g i hi).klt
/-- a step that lays new blocks alone: those may be set aside too -/
theorem Ax.below (h : Ax w0 v o K s t b L X) (hb : Below v.heap.size v v') : Ax w0 v' o K s t b L (fun k => X k ∨ (v.heap.size ≤ k ∧ k < v'.heap.size)) := by
  obtain ⟨col, h⟩ := h
  have hs := hb.size
  have ho := h.olt
  refine ⟨ncol v col 5, (hb.block o ho).trans h.box, h.mg.new hb (by omega), (ncol_old ho).trans h.oc, h.ol, fun k hk => ?_⟩
  rcases hk with hk | hk
  · obtain ⟨h1, h2⟩ := h.xc k hk
    exact ⟨by omega, (ncol_old h1).trans h2⟩
  · exact ⟨hk.2, ncol_new hk.1⟩
theorem Ax.below' (h : Ax w0 v o K s t b L X) (hb : Below v.heap.size v v') : Ax w0 v' o K s t b L X := (h.below hb).only fun k hk => .inl hk
/-- a step that changes blocks set aside, and new ones -/
theorem Ax.aside {bad : Nat → Prop} (h : Ax w0 v o K s t b L X) (hk : Kp bad v v') (hb : ∀ k, k < v.heap.size → bad k → X k ∧ w0.heap.size ≤ k) : Ax w0 v' o K s t b L (fun k => X k ∨ (v.heap.size ≤ k ∧ k < v'.heap.size)) := by
  have hxo := h.xo
  obtain ⟨col, h⟩ := h
  have hs := hk.size
  have ho := h.olt
  refine ⟨ncol v col 5, (hk.block o ho fun hb' => hxo (hb o ho hb').1).trans h.box, h.mg.other hk (fun k hlt hb' => ?_) (by omega), (ncol_old ho).trans h.oc, h.ol, fun k hk => ?_⟩
  · have h1 := hb k hlt hb'
    exact ⟨by have := (h.xc k h1.1).2; omega, h1.2⟩
  rcases hk with hk | hk
  · obtain ⟨h1, h2⟩ := h.xc k hk
    exact ⟨by omega, (ncol_old h1).trans h2⟩
  · exact ⟨hk.2, ncol_new hk.1⟩
/-- a list's step -/
theorem Ay.op {i K' : Nat} {l' : List Nat} (h : Ay w0 v o K s t b L X col) (hi : i < 4) (hr : GxR w0 v v' (b i) K' 10000 4096 l' (fun k => k < v.heap.size ∧ col k ≠ i)) (hK : K ≤ K') : AxR w0 v v' o K' s t b (upd L i l') X := by
  have hs := hr.2.2
  have ho := h.olt
  obtain ⟨h1, h2⟩ := h.mg.op hi hr hK
  refine ⟨⟨ncol v col i, (h2.block o ho (by have := h.oc; show ¬ col o = i; omega)).trans h.box, h1, (ncol_old ho).trans h.oc, h.ol, fun k hk => ?_⟩, fun k hk => h2.block k (h.xc k hk).1 (by have := (h.xc k hk).2; show ¬ col k = i; omega), hs⟩
  obtain ⟨h3, h4⟩ := h.xc k hk
  exact ⟨by omega, (ncol_old h3).trans h4⟩
theorem Ax.add (h : Ax w0 v o K s t b L X) (i : Nat) (hi : i < 4) (hl : (L i).length ≤ 4096) (hK : K ≤ 1000000) (k : Nat) (hk : k < 4294967296) :
    Calls Try.prog 39 #[gp (b i), .int .u32 (k : Int)] v fun e w' => e = .returned (.tuple #[.int .u32 ((addG 4096 (L i) k).2.1 : Int), .bool (addG 4096 (L i) k).2.2, .int .i64 0]) ∧ AxR w0 v w' o (K + 1) s t b (upd L i (addG 4096 (L i) k).1) X := by
  obtain ⟨col, h⟩ := h
  refine ((h.mg.g i hi).add (by omega) (by omega) hK k hk (by omega)).mono ?_
  rintro e w' ⟨rfl, hr⟩
  exact ⟨rfl, h.op hi hr (by omega)⟩
theorem Ax.remove (h : Ax w0 v o K s t b L X) (i : Nat) (hi : i < 4) (k : Nat) (hk : k < 4294967296) :
    Calls Try.prog 44 #[gp (b i), .int .u32 (k : Int)] v fun e w' => e = .returned (.tuple #[.bool (decide (k ∈ L i)), .int .i64 0]) ∧ AxR w0 v w' o K s t b (upd L i ((L i).erase k)) X := by
  obtain ⟨col, h⟩ := h
  refine ((h.mg.g i hi).remove k hk).mono ?_
  rintro e w' ⟨rfl, hr⟩
  exact ⟨rfl, h.op hi hr (by omega)⟩
theorem Ax.pop (h : Ax w0 v o K s t b L X) (i : Nat) (hi : i < 4) {l : List Nat} {x : Nat} (hl : L i = l ++ [x]) :
    Calls Try.prog 45 #[gp (b i)] v fun e w' => e = .returned (.tuple #[.int .u32 (x : Int), .int .i64 0]) ∧ AxR w0 v w' o K s t b (upd L i l) X := by
  obtain ⟨col, h⟩ := h
  refine ((hl ▸ h.mg.g i hi).pop).mono ?_
  rintro e w' ⟨rfl, hr⟩
  exact ⟨rfl, h.op hi hr (by omega)⟩
theorem Ax.llen (h : Ax w0 v o K s t b L X) (i : Nat) (hi : i < 4) : Calls Try.prog 42 #[gp (b i)] v fun e w' => e = .returned (.int .i64 ((L i).length : Int)) ∧ v = w' := by
  obtain ⟨col, h⟩ := h
  exact (h.mg.g i hi).len
theorem Ax.lhas (h : Ax w0 v o K s t b L X) (i : Nat) (hi : i < 4) (k : Nat) (hk : k < 4294967296) : Calls Try.prog 47 #[gp (b i), .int .u32 (k : Int)] v fun e w' => e = .returned (.bool (decide (k ∈ L i))) ∧ v = w' := by
  obtain ⟨col, h⟩ := h
  exact (h.mg.g i hi).has k hk
theorem Ax.lkeys (h : Ax w0 v o K s t b L X) (i : Nat) (hi : i < 4) (hl : (L i).length ≤ 1000000) : Calls Try.prog 43 #[gp (b i)] v fun e w' => ∃ u, e = .returned u ∧ w'.ownsRow v.heap.size 38 1 u (L i).length ((ints (L i)).map (Value.int .u32)) ∧ Below v.heap.size v w' := by
  obtain ⟨col, h⟩ := h
  exact (h.mg.g i hi).keys' hl
/-- the target is set -/
theorem Ax.setT (h : Ax w0 v o K s t b L X) (z : Int) : AxR w0 v (v.setCell ⟨o, 1, none⟩ (.int .i64 z)) o K s z b L X := by
  have hxo := h.xo
  obtain ⟨col, h⟩ := h
  have ho := h.olt
  have hset := fun k (hk : k ≠ o) => Below.heap_setCell v ⟨o, 1, none⟩ (.int .i64 z) k (by show k ≠ o; exact hk)
  have hsz : (v.setCell ⟨o, 1, none⟩ (.int .i64 z)).heap.size = v.heap.size := by simp
  have hk : Kp (fun k => k = o) v (v.setCell ⟨o, 1, none⟩ (.int .i64 z)) := by
    have hb := (Below.refl o v).setCell (p := ⟨o, 1, none⟩) (Nat.le_refl _) (.int .i64 z)
    exact ⟨hb.os, hb.tape, hb.output, hb.size, fun k hk hn => hset k hn⟩
  refine ⟨⟨ncol v col 5, heap_set h.box (.int .i64 z), h.mg.other hk (fun k hlt hb => ?_) (by omega), (ncol_old ho).trans h.oc, h.ol, fun k hk => ?_⟩, fun k hk => hset k (fun e => hxo (e ▸ hk)), by omega⟩
  · rw [hb, h.oc]
    exact ⟨Nat.le_refl _, h.ol⟩
  · obtain ⟨h1, h2⟩ := h.xc k hk
    exact ⟨by omega, (ncol_old h1).trans h2⟩
theorem AxR.trans {v'' : World} {K' K'' : Nat} {t' t'' : Int} {L' L'' : Nat → List Nat} (h : AxR w0 v v' o K' s t' b L' X) (h' : AxR w0 v' v'' o K'' s t'' b L'' X) : AxR w0 v v'' o K'' s t'' b L'' X :=
  ⟨h'.1, fun k hk => (h'.2.1 k hk).trans (h.2.1 k hk), Nat.le_trans h.2.2 h'.2.2⟩
theorem Ax.r (h : Ax w0 v o K s t b L X) : AxR w0 v v o K s t b L X := ⟨h, fun _ _ => rfl, Nat.le_refl _⟩
end
end Go.Proofs.Ytggimkfepcgaoaa.Arc
end
section
namespace Go.Proofs.Ytggimkfepcgaoaa.Arc
open Go Go.RowKit Kit Go.Maps Lnk Gho
abbrev ap (o : Nat) : Value := .pointer (some ⟨o, 0, none⟩)
section
variable {w0 v : World} {o K s : Nat} {t : Int} {b : Nat → Nat} {L : Nat → List Nat} {X : Nat → Prop}
set_option maxRecDepth 100000 in
theorem zero_any (h : Ax w0 v o K s t b L X) (hs : 1 ≤ s) : Calls Try.prog 124 #[ap o] v fun e w' => e = .returned (.bool false) ∧ v = w' := by
  obtain ⟨c0, -⟩ := h.cells
  have h1 : ((s : Int) == 0) = false := by rw [beq_eq_false_iff_ne]; omega
  have h2 : ¬ s = 0 := by omega
  clear h hs
  go_enter Try.func124, Try.ntmps124
  go_wp2_with fail
  go_ret
  exact ⟨rfl, rfl⟩
set_option maxRecDepth 100000 in
theorem size_any (h : Ax w0 v o K s t b L X) (hs : 1 ≤ s) : Calls Try.prog 125 #[ap o] v fun e w' => e = .returned (.int .i64 (s : Int)) ∧ v = w' := by
  have HZ := Lib.hid (zero_any h hs)
  obtain ⟨c0, -⟩ := h.cells
  clear h hs
  go_enter Try.func125, Try.ntmps125
  go_wp2_with fail
  refine HZ.out.mono ?_
  rintro e w1 ⟨rfl, rfl⟩
  go_wp2_with fail
  go_ret
  exact ⟨rfl, rfl⟩
def sums (L : Nat → List Nat) (I : List Nat) : Nat := (I.map fun i => (L i).length).sum
theorem sums_le {L : Nat → List Nat} {M : Nat} : ∀ {I : List Nat}, (∀ i ∈ I, (L i).length ≤ M) → sums L I ≤ I.length * M
  | [], _ => by simp [sums]
  | i :: I, h => by
    have h1 := sums_le (I := I) fun j hj => h j (List.mem_cons_of_mem _ hj)
    have h2 := h i (List.mem_cons_self ..)
    unfold sums at *
    rw [List.map_cons, List.sum_cons, List.length_cons, Nat.succ_mul]
    omega
theorem sums_take {L : Nat → List Nat} {I : List Nat} {j i : Nat} (h : I[j]? = some i) : sums L (I.take (j + 1)) = sums L (I.take j) + (L i).length := by
  rw [List.take_add_one, h]
  unfold sums
  simp
set_option maxRecDepth 100000 in
set_option maxHeartbeats 2000000 in
theorem len_any (h : Ax w0 v o K s t b L X) {g c : Nat} (I : List Nat) {n : Nat} (hn : I.length = n) (hI : ∀ i ∈ I, i < 4) (hc : n ≤ 4) (hrow : ∀ j i : Nat, I[j]? = some i → v.cell? ⟨g, j, none⟩ = some (.int .i64 (i : Int))) (hL : ∀ i, i < 4 → (L i).length ≤ 4096) :
    Calls Try.prog 130 #[ap o, .slice (some ⟨g, 0, none⟩) n c] v fun e w' => e = .returned (.int .i64 ((sums L I : Nat) : Int)) ∧ v = w' := by
  have HR := Lib.hid hrow
  have HI := Lib.hid (show I.length = n ∧ (∀ i ∈ I, i < 4) ∧ n ≤ 4 ∧ (∀ i, i < 4 → (L i).length ≤ 4096) from ⟨hn, hI, hc, hL⟩)
  have H := Lib.hid h
  clear h hrow hn hI hc hL
  go_enter Try.func130, Try.ntmps130
  go_wp2_with fail
  go_loopw [5, 10] (fun nv iv wr => ∃ (j : Nat) (z : Int), j ≤ n ∧ iv = .int .i64 (j : Int) ∧ nv = .int .i64 z ∧ Hid (z = ((sums L (I.take j) : Nat) : Int)) ∧ v = wr) (fun _ iv _ => n - (intOf iv).toNat)
  case atStart => exact ⟨0, 0, Nat.zero_le _, rfl, rfl, Lib.hid rfl, rfl⟩
  case round =>
    obtain ⟨j, z, hj, rfl, rfl, HZ, rfl⟩ := hrel
    by_cases hlt : j < n
    · obtain ⟨i, hi⟩ : ∃ i, I[j]? = some i := ⟨I[j]'(by rw [HI.out.1]; exact hlt), List.getElem?_eq_getElem _⟩
      have hi4 := HI.out.2.1 i (List.mem_of_getElem? hi)
      have c1 := HR.out j i hi
      have c2 := H.out.at4 i hi4
      have HL := Lib.hid (H.out.llen i hi4)
      have h1 : (j : Int) < (n : Int) := by omega
      have h2 : (0 : Int) ≤ (j : Int) := by omega
      have h3 : (i : Int) < 4 := by omega
      have h4 : (0 : Int) ≤ (i : Int) := by omega
      have wj := IntWalk.i64_in ((j : Int) + 1) (by have := HI.out; omega)
      obtain ⟨l, hl⟩ : ∃ l, (L i).length = l := ⟨_, rfl⟩
      have hl2 := HI.out.2.2.2 i hi4
      have hsl := sums_le (I := I.take j) (M := 4096) fun k hk => HI.out.2.2.2 k (HI.out.2.1 k (List.mem_of_mem_take hk))
      rw [List.length_take] at hsl
      have hmul : min j I.length * 4096 ≤ 4 * 4096 := Nat.mul_le_mul_right _ (by have := HI.out; omega)
      have wz : IntKind.i64.wrap (z + (l : Int)) = z + (l : Int) := IntWalk.i64_in _ (by have := HZ.out; omega)
      have HS := Lib.hid (show z + (l : Int) = ((sums L (I.take (j + 1)) : Nat) : Int) by rw [sums_take hi, hl, HZ.out]; omega)
      rw [hl] at HL
      clear hi hi4 hl hl2 hsl hmul
      go_wp2_with fail
      refine HL.out.mono ?_
      rintro e w1 ⟨rfl, rfl⟩
      go_wp2_with fail
      go_roundw
      case rel => exact ⟨j + 1, z + (l : Int), by omega, by go_num, rfl, HS, trivial⟩
      case measure => simp [intOf] <;> omega
    · obtain rfl : j = n := by omega
      have HS := Lib.hid (show z = ((sums L I : Nat) : Int) by rw [HZ.out, List.take_of_length_le (Nat.le_of_eq HI.out.1)])
      go_wp2_with fail
      exact bodyPost_ret (v := .int .i64 z) (by simp [results, Try.results130, go_sem]) rfl ⟨by rw [HS.out], rfl⟩
/-- the row of a call of len -/
theorem len_lit (h : Ax w0 v o K s t b L X) (I : List Nat) (cs : Array Value) {n : Nat} (hn : I.length = n) (hI : ∀ i ∈ I, i < 4) (hc : n ≤ 4) (hcs : ∀ j i : Nat, I[j]? = some i → cs[j]? = some (.int .i64 (i : Int))) (hL : ∀ i, i < 4 → (L i).length ≤ 4096) :
    Calls Try.prog 130 #[ap o, .slice (some ⟨v.heap.size, 0, none⟩) n n] (v.alloc (.cells cs 3)) fun e w' => e = .returned (.int .i64 ((sums L I : Nat) : Int)) ∧ v.alloc (.cells cs 3) = w' := by
  have hb : Below v.heap.size v (v.alloc (.cells cs 3)) := by go_grown
  refine len_any (h.below' hb) I hn hI hc (fun j i hj => ?_) hL
  have hx := (MapKept.heap_alloc v (.cells cs 3)).1
  have := hcs j i hj
  simp only [World.cell?, hx]
  simpa using this
set_option maxRecDepth 100000 in
theorem alen_any (h : Ax w0 v o K s t b L X) (hs : 1 ≤ s) (hL : ∀ i, i < 4 → (L i).length ≤ 4096) : Calls Try.prog 58 #[ap o] v fun e w' => e = .returned (.int .i64 (((L 0).length + (L 1).length : Nat) : Int)) ∧ Below v.heap.size v w' := by
  have HZ := Lib.hid (zero_any h hs)
  have hll := len_lit (n := 2) h [0, 1] #[.int .i64 0, .int .i64 1] rfl (by simp) (by omega) (fun j i hj => by match j, hj with | 0, hj => cases hj; rfl | 1, hj => cases hj; rfl | k + 2, hj => simp at hj) hL
  have e1 : sums L [0, 1] = (L 0).length + (L 1).length := by simp [sums]
  rw [e1] at hll
  have HL := Lib.hid hll
  obtain ⟨l, hl⟩ : ∃ l, (L 0).length + (L 1).length = l := ⟨_, rfl⟩
  rw [hl] at HL ⊢
  clear h hs hL hll e1 hl
  go_enter Try.func58, Try.ntmps58
  go_wp2_with fail
  refine HZ.out.mono ?_
  rintro e w1 ⟨rfl, rfl⟩
  go_wp2_with fail
  refine HL.out.mono ?_
  rintro e w1 ⟨rfl, rfl⟩
  go_wp2_with fail
  go_ret
  exact ⟨rfl, by go_grown⟩
set_option maxRecDepth 100000 in
theorem ahas_any (h : Ax w0 v o K s t b L X) (hs : 1 ≤ s) (k : Nat) (hk : k < 4294967296) : Calls Try.prog 59 #[ap o, .int .u32 (k : Int)] v fun e w' => e = .returned (.bool (decide (k ∈ L 0 ∨ k ∈ L 1))) ∧ v = w' := by
  have HZ := Lib.hid (zero_any h hs)
  have H0 := Lib.hid (h.lhas 0 (by omega) k hk)
  have H1 := Lib.hid (h.lhas 1 (by omega) k hk)
  obtain ⟨-, -, c0, c1, -⟩ := h.cells
  have e1 : decide (k ∈ L 0 ∨ k ∈ L 1) = (decide (k ∈ L 0) || decide (k ∈ L 1)) := by simp
  rw [e1]
  obtain ⟨z, hz⟩ : ∃ z : Int, (k : Int) = z := ⟨_, rfl⟩
  rw [hz] at H0 H1 ⊢
  clear h hs hz e1
  generalize decide (k ∈ L 0) = t0 at *
  generalize decide (k ∈ L 1) = t1 at *
  cases t0 with
  | true =>
    go_enter Try.func59, Try.ntmps59
    go_wp2_with fail
    refine HZ.out.mono ?_
    rintro e w1 ⟨rfl, rfl⟩
    go_wp2_with fail
    refine H0.out.mono ?_
    rintro e w1 ⟨rfl, rfl⟩
    go_wp2_with fail
    go_ret
    exact ⟨rfl, rfl⟩
  | false =>
    go_enter Try.func59, Try.ntmps59
    go_wp2_with fail
    refine HZ.out.mono ?_
    rintro e w1 ⟨rfl, rfl⟩
    go_wp2_with fail
    refine H0.out.mono ?_
    rintro e w1 ⟨rfl, rfl⟩
    go_wp2_with fail
    refine H1.out.mono ?_
    rintro e w1 ⟨rfl, rfl⟩
    go_wp2_with fail
    exact bodyPost_ret (v := .bool t1) (by simp [results, Try.results59, go_sem]) rfl ⟨by simp, rfl⟩
set_option maxRecDepth 100000 in
theorem apop_any (h : Ax w0 v o K s t b L X) (i : Nat) (hi : i < 4) {l : List Nat} {x : Nat} (hl : L i = l ++ [x]) :
    Calls Try.prog 153 #[ap o, .int .i64 (i : Int)] v fun e w' => e = .returned (.int .u32 (x : Int)) ∧ AxR w0 v w' o K s t b (upd L i l) X := by
  have HP := Lib.hid (h.pop i hi hl)
  have c0 := h.at4 i hi
  have h3 : (i : Int) < 4 := by omega
  have h4 : (0 : Int) ≤ (i : Int) := by omega
  clear h hl hi
  go_enter Try.func153, Try.ntmps153
  go_wp2_with fail
  refine HP.out.mono ?_
  rintro e w1 ⟨rfl, hr⟩
  have HR := Lib.hid hr
  clear hr
  go_wp2_with fail
  go_ret
  exact ⟨rfl, HR.out⟩
set_option maxRecDepth 100000 in
theorem amove_any (h : Ax w0 v o K s t b L X) (i j : Nat) (hi : i < 4) (hj : j < 4) (k : Nat) (hk : k < 4294967296) (hl : ((upd L i ((L i).erase k)) j).length ≤ 4096) (hK : K ≤ 1000000) :
    Calls Try.prog 128 #[ap o, .int .u32 (k : Int), .int .i64 (i : Int), .int .i64 (j : Int)] v fun e w' => e = .returned (.tuple #[]) ∧ AxR w0 v w' o (K + 1) s t b (upd (upd L i ((L i).erase k)) j (addG 4096 ((upd L i ((L i).erase k)) j) k).1) X := by
  have HP := Lib.hid (h.remove i hi k hk)
  have HA := Lib.hid (fun u (h2 : AxR w0 v u o K s t b (upd L i ((L i).erase k)) X) => h2.1.add j hj hl hK k hk)
  have c0 := h.at4 i hi
  have h3 : (i : Int) < 4 := by omega
  have h4 : (0 : Int) ≤ (i : Int) := by omega
  have h5 : (j : Int) < 4 := by omega
  have h6 : (0 : Int) ≤ (j : Int) := by omega
  have HJ := Lib.hid hj
  clear h hl hi hj
  go_enter Try.func128, Try.ntmps128
  go_wp2_with fail
  refine HP.out.mono ?_
  rintro e w1 ⟨rfl, hr⟩
  have HR := Lib.hid hr
  have c1 := hr.1.at4 j HJ.out
  clear hr c0
  go_wp2_with fail
  refine (HA.out _ HR.out).mono ?_
  rintro e w2 ⟨rfl, hr⟩
  have HR2 := Lib.hid (HR.out.trans hr)
  clear hr c1
  go_wp2_with fail
  go_returns
  exact ⟨rfl, HR2.out⟩
end
end Go.Proofs.Ytggimkfepcgaoaa.Arc
end
