/-
  Several ghost lists in one object: whose each block is (a colour for each block).
-/
import Derived.Test.YtggimkfepcgaoaaGhoQ
import Derived.Deep.RegionHeld3
import Derived.Deep.CutBlock
import Derived.Deep.DeepCutAuto
set_option linter.unusedVariables false
set_option linter.unusedSimpArgs false
section
namespace Go.Proofs.Ytggimkfepcgaoaa.Gho
open Go Go.RowKit Kit Go.Maps Lnk
/-- n lists at b, the blocks of list i have the colour i -/
structure Mg (w0 v : World) (K B : Nat) (b : Nat → Nat) (L : Nat → List Nat) (n : Nat) (col : Nat → Nat) : Prop where
  g : ∀ i, i < n → Gx w0 v (b i) K B 4096 (L i) (fun k => k < v.heap.size ∧ col k ≠ i)
  lo : ∀ k, col k < n → w0.heap.size ≤ k
  bl : Below w0.heap.size w0 v
/-- another list at i -/
def upd (L : Nat → List Nat) (i : Nat) (l : List Nat) : Nat → List Nat := fun j => if j = i then l else L j
/-- the colours behind a step: new blocks have the colour c -/
def ncol (w : World) (col : Nat → Nat) (c : Nat) : Nat → Nat := fun k => if k < w.heap.size then col k else c
theorem ncol_old {w : World} {col : Nat → Nat} {c k : Nat} (h : k < w.heap.size) : ncol w col c k = col k := if_pos h
theorem ncol_new {w : World} {col : Nat → Nat} {c k : Nat} (h : w.heap.size ≤ k) : ncol w col c k = c := if_neg (by omega)
section
variable {w0 v v' : World} {K B n : Nat} {b : Nat → Nat} {L : Nat → List Nat} {col : Nat → Nat}
theorem kp_of {bad : Nat → Prop} (h : Below w0.heap.size w0 v) (h' : Below w0.heap.size w0 v') (hs : v.heap.size ≤ v'.heap.size) (hb : ∀ k, k < v.heap.size → ¬ bad k → v'.heap[k]? = v.heap[k]?) : Kp bad v v' :=
  ⟨h'.os.trans h.os.symm, h'.tape.trans h.tape.symm, h'.output.trans h.output.symm, hs, hb⟩
theorem Mg.op {i K' : Nat} {l' : List Nat} (h : Mg w0 v K B b L n col) (hi : i < n) (hr : GxR w0 v v' (b i) K' B 4096 l' (fun k => k < v.heap.size ∧ col k ≠ i)) (hK : K ≤ K') : Mg w0 v' K' B b (upd L i l') n (ncol v col i) ∧ Kp (fun k => col k = i) v v' := by
  have hk : Kp (fun k => col k = i) v v' := kp_of h.bl hr.1.bl hr.2.2 fun k hk hb => hr.2.1 k ⟨hk, hb⟩
  have hs := h.bl.size
  refine ⟨⟨fun j hj => ?_, fun k hc => ?_, hr.1.bl⟩, hk⟩
  · unfold upd
    by_cases hij : j = i
    · subst hij
      rw [if_pos rfl]
      refine hr.1.only fun k hx => ?_
      by_cases hlt : k < v.heap.size
      · rw [ncol_old hlt] at hx; exact ⟨hlt, hx.2⟩
      · rw [ncol_new (by omega)] at hx; exact absurd rfl hx.2
    · rw [if_neg hij]
      refine (((h.g j hj).aside hk (fun k hb hlt => ⟨hlt, by rw [hb]; exact fun e => hij e.symm⟩) (fun k hx => ?_)).only fun k hx => ?_).mono hK (Nat.le_refl _)
      · by_cases hc : col k = i
        · exact .inl (h.lo k (by omega))
        · exact .inr hc
      · by_cases hlt : k < v.heap.size
        · rw [ncol_old hlt] at hx; exact .inl ⟨hlt, hx.2⟩
        · exact .inr ⟨by omega, hx.1⟩
  · by_cases hlt : k < v.heap.size
    · rw [ncol_old hlt] at hc; exact h.lo k hc
    · omega
/-- a step that changes blocks of none of the lists, at or past w0's end -/
theorem Mg.other {bad : Nat → Prop} {c : Nat} (h : Mg w0 v K B b L n col) (hk : Kp bad v v') (hb : ∀ k, k < v.heap.size → bad k → n ≤ col k ∧ w0.heap.size ≤ k) (hc : n ≤ c) : Mg w0 v' K B b L n (ncol v col c) := by
  have hs := h.bl.size
  have hs' := hk.size
  refine ⟨fun j hj => ?_, fun k hc => ?_, ?_⟩
  · refine ((h.g j hj).aside (bad := fun k => bad k ∧ k < v.heap.size) ⟨hk.os, hk.tape, hk.output, hk.size, fun k hlt hn => hk.block k hlt fun hb => hn ⟨hb, hlt⟩⟩ (fun k hb' hlt => ⟨hlt, by have := (hb k hlt hb'.1).1; omega⟩) (fun k hx => ?_)).only fun k hx => ?_
    · by_cases hbk : bad k ∧ k < v.heap.size
      · exact .inl (hb k hbk.2 hbk.1).2
      · exact .inr hbk
    · by_cases hlt : k < v.heap.size
      · rw [ncol_old hlt] at hx; exact .inl ⟨hlt, hx.2⟩
      · exact .inr ⟨by omega, hx.1⟩
  · by_cases hlt : k < v.heap.size
    · rw [ncol_old hlt] at hc; exact h.lo k hc
    · omega
  · refine ⟨hk.os.trans h.bl.os, hk.tape.trans h.bl.tape, hk.output.trans h.bl.output, by omega, fun k hlt => (hk.block k (by omega) fun hbk => ?_).trans (h.bl.block k hlt)⟩
    have := (hb k (by omega) hbk).2
    omega
theorem Mg.new {c : Nat} (h : Mg w0 v K B b L n col) (hb : Below v.heap.size v v') (hc : n ≤ c) : Mg w0 v' K B b L n (ncol v col c) :=
  h.other (bad := fun _ => False) (Kp.of hb) (fun _ _ h => h.elim) hc
theorem Mg.mono {K' : Nat} (h : Mg w0 v K B b L n col) (hK : K ≤ K') : Mg w0 v K' B b L n col := ⟨fun i hi => (h.g i hi).mono hK (Nat.le_refl _), h.lo, h.bl⟩
theorem Mg.congr {L' : Nat → List Nat} (h : Mg w0 v K B b L n col) (e : ∀ i, i < n → L' i = L i) : Mg w0 v K B b L' n col := ⟨fun i hi => by rw [e i hi]; exact h.g i hi, h.lo, h.bl⟩
end
end Go.Proofs.Ytggimkfepcgaoaa.Gho
end
section
namespace Go.Proofs.Ytggimkfepcgaoaa.Arc
open Go Go.RowKit Kit Go.Maps Lnk Gho
/-- the pointer to a list -/
abbrev gp (b : Nat) : Value := .pointer (some ⟨b, 0, none⟩)
/-- a cache at o with the lists b, of keys L -/
structure Ay (w0 v : World) (o K s : Nat) (t : Int) (b : Nat → Nat) (L : Nat → List Nat) (X : Nat → Prop) (col : Nat → Nat) : Prop where
  box : v.heap[o]? = some (.cells #[.int .i64 (s : Int), .int .i64 t, gp (b 0), gp (b 1), gp (b 2), gp (b 3)] 172 (0, 0))
  mg : Mg w0 v K 10000 b L 4 col
  oc : col o = 4
  ol : w0.heap.size ≤ o
  xc : ∀ k, X k → k < v.heap.size ∧ col k = 5
def Ax (w0 v : World) (o K s : Nat) (t : Int) (b : Nat → Nat) (L : Nat → List Nat) (X : Nat → Prop) : Prop := ∃ col, Ay w0 v o K s t b L X col
/-- what a step leaves -/
def AxR (w0 v v' : World) (o K s : Nat) (t : Int) (b : Nat → Nat) (L : Nat → List Nat) (X : Nat → Prop) : Prop := Ax w0 v' o K s t b L X ∧ (∀ k, X k → v'.heap[k]? = v.heap[k]?) ∧ v.heap.size ≤ v'.heap.size
section
variable {w0 v v' : World} {o K s : Nat} {t : Int} {b : Nat → Nat} {L : Nat → List Nat} {X : Nat → Prop} {col : Nat → Nat}
theorem Ay.olt (h : Ay w0 v o K s t b L X col) : o < v.heap.size := (Array.getElem?_eq_some_iff.1 h.box).1
theorem Ax.bl (h : Ax w0 v o K s t b L X) : Below w0.heap.size w0 v := h.choose_spec.mg.bl
theorem Ax.olt (h : Ax w0 v o K s t b L X) : o < v.heap.size := h.choose_spec.olt
theorem Ax.ol (h : Ax w0 v o K s t b L X) : w0.heap.size ≤ o := h.choose_spec.ol
theorem Ax.xlt (h : Ax w0 v o K s t b L X) : ∀ k, X k → k < v.heap.size := fun k hk => (h.choose_spec.xc k hk).1
theorem Ax.xo (h : Ax w0 v o K s t b L X) : ¬ X o := fun hk => by have h1 := (h.choose_spec.xc o hk).2; have h2 := h.choose_spec.oc; omega
theorem Ax.cells (h : Ax w0 v o K s t b L X) : v.cell? ⟨o, 0, none⟩ = some (.int .i64 (s : Int)) ∧ v.cell? ⟨o, 1, none⟩ = some (.int .i64 t) ∧ v.cell? ⟨o, 2, none⟩ = some (gp (b 0)) ∧ v.cell? ⟨o, 3, none⟩ = some (gp (b 1)) ∧ v.cell? ⟨o, 4, none⟩ = some (gp (b 2)) ∧ v.cell? ⟨o, 5, none⟩ = some (gp (b 3)) ∧ ∀ j, v.frozen? ⟨o, j, none⟩ = false := by
  obtain ⟨col, h⟩ := h
  have hb := h.box
  refine ⟨?_, ?_, ?_, ?_, ?_, ?_, fun j => ?_⟩ <;> simp [World.cell?, World.frozen?, hb]
theorem Ax.at4 (h : Ax w0 v o K s t b L X) (i : Nat) (hi : i < 4) : v.cell? ⟨o, 2 + i, none⟩ = some (gp (b i)) := by
  obtain ⟨-, -, h0, h1, h2, h3, -⟩ := h.cells
  match i, hi with
  | 0, _ => exact h0
  | 1, _ => exact h1
  | 2, _ => exact h2
  | 3, _ => exact h3
theorem Ax.only {X' : Nat → Prop} (h : Ax w0 v o K s t b L X) (hX : ∀ k, X' k → X k) : Ax w0 v o K s t b L X' := by
  obtain ⟨col, h⟩ := h
  exact ⟨col, h.box, h.mg, h.oc, h.ol, fun k hk => h.xc k (hX k hk)⟩
theorem Ax.mono {K' : Nat} (h : Ax w0 v o K s t b L X) (hK : K ≤ K') : Ax w0 v o K' s t b L X := by
  obtain ⟨col, h⟩ := h
  exact ⟨col, h.box, h.mg.mono hK, h.oc, h.ol, h.xc⟩
theorem Ax.congr {L' : Nat → List Nat} (h : Ax w0 v o K s t b L X) (e : ∀ i, i < 4 → L' i = L i) : Ax w0 v o K s t b L' X := by
  obtain ⟨col, h⟩ := h
  exact ⟨col, h.box, h.mg.congr e, h.oc, h.ol, h.xc⟩
theorem Ax.nd (h : Ax w0 v o K s t b L X) (i : Nat) (hi : i < 4) : (L i).Nodup := (h.choose_spec.mg.g i hi).nd
theorem Ax.klt (h : Ax w0 v o K s t b L X) (i : Nat) (hi : i < 4) : ∀ k ∈ L i, k < 4294967296 := (h.choose_spec.mg.g i hi).klt
/-- a step that lays new blocks alone: those may be set aside too -/
theorem Ax.below (h : Ax w0 v o K s t b L X) (hb : Below v.heap.size v v') : Ax w0 v' o K s t b L (fun k => X k ∨ (v.heap.size ≤ k ∧ k < v'.heap.size)) := by
  obtain ⟨col, h⟩ := h
  have hs := hb.size
  have ho := h.olt
  refine ⟨ncol v col 5, (hb.block o ho).trans h.box, h.mg.new hb (by omega), (ncol_old ho).trans h.oc, h.ol, fun k hk => ?_⟩
  rcases hk with hk | hk
  · obtain ⟨h1, h2⟩ := h.xc k hk
    exact ⟨by omega, (ncol_old h1).trans h2⟩
  · exact ⟨hk.2, ncol_new hk.1⟩
theorem Ax.below' (h : Ax w0 v o K s t b L X) (hb : Below v.heap.size v v') : Ax w0 v' o K s t b L X := (h.below hb).only fun k hk => .inl hk
/-- a step that changes blocks set aside, and new ones -/
theorem Ax.aside {bad : Nat → Prop} (h : Ax w0 v o K s t b L X) (hk : Kp bad v v') (hb : ∀ k, k < v.heap.size → bad k → X k ∧ w0.heap.size ≤ k) : Ax w0 v' o K s t b L (fun k => X k ∨ (v.heap.size ≤ k ∧ k < v'.heap.size)) := by
  have hxo := h.xo
  obtain ⟨col, h⟩ := h
  have hs := hk.size
  have ho := h.olt
  refine ⟨ncol v col 5, (hk.block o ho fun hb' => hxo (hb o ho hb').1).trans h.box, h.mg.other hk (fun k hlt hb' => ?_) (by omega), (ncol_old ho).trans h.oc, h.ol, fun k hk => ?_⟩
  · have h1 := hb k hlt hb'
    exact ⟨by have := (h.xc k h1.1).2; omega, h1.2⟩
  rcases hk with hk | hk
  · obtain ⟨h1, h2⟩ := h.xc k hk
    exact ⟨by omega, (ncol_old h1).trans h2⟩
  · exact ⟨hk.2, ncol_new hk.1⟩
/-- a list's step -/
theorem Ay.op {i K' : Nat} {l' : List Nat} (h : Ay w0 v o K s t b L X col) (hi : i < 4) (hr : GxR w0 v v' (b i) K' 10000 4096 l' (fun k => k < v.heap.size ∧ col k ≠ i)) (hK : K ≤ K') : AxR w0 v v' o K' s t b (upd L i l') X := by
  have hs := hr.2.2
  have ho := h.olt
  obtain ⟨h1, h2⟩ := h.mg.op hi hr hK
  refine ⟨⟨ncol v col i, (h2.block o ho (by have := h.oc; show ¬ col o = i; omega)).trans h.box, h1, (ncol_old ho).trans h.oc, h.ol, fun k hk => ?_⟩, fun k hk => h2.block k (h.xc k hk).1 (by have := (h.xc k hk).2; show ¬ col k = i; omega), hs⟩
  obtain ⟨h3, h4⟩ := h.xc k hk
  exact ⟨by omega, (ncol_old h3).trans h4⟩
theorem Ax.add (h : Ax w0 v o K s t b L X) (i : Nat) (hi : i < 4) (hl : (L i).length ≤ 4096) (hK : K ≤ 1000000) (k : Nat) (hk : k < 4294967296) :
    Calls Try.prog 39 #[gp (b i), .int .u32 (k : Int)] v fun e w' => e = .returned (.tuple #[.int .u32 ((addG 4096 (L i) k).2.1 : Int), .bool (addG 4096 (L i) k).2.2, .int .i64 0]) ∧ AxR w0 v w' o (K + 1) s t b (upd L i (addG 4096 (L i) k).1) X := by
  obtain ⟨col, h⟩ := h
  refine ((h.mg.g i hi).add (by omega) (by omega) hK k hk (by omega)).mono ?_
  rintro e w' ⟨rfl, hr⟩
  exact ⟨rfl, h.op hi hr (by omega)⟩
theorem Ax.remove (h : Ax w0 v o K s t b L X) (i : Nat) (hi : i < 4) (k : Nat) (hk : k < 4294967296) :
    Calls Try.prog 44 #[gp (b i), .int .u32 (k : Int)] v fun e w' => e = .returned (.tuple #[.bool (decide (k ∈ L i)), .int .i64 0]) ∧ AxR w0 v w' o K s t b (upd L i ((L i).erase k)) X := by
  obtain ⟨col, h⟩ := h
  refine ((h.mg.g i hi).remove k hk).mono ?_
  rintro e w' ⟨rfl, hr⟩
  exact ⟨rfl, h.op hi hr (by omega)⟩
theorem Ax.pop (h : Ax w0 v o K s t b L X) (i : Nat) (hi : i < 4) {l : List Nat} {x : Nat} (hl : L i = l ++ [x]) :
    Calls Try.prog 45 #[gp (b i)] v fun e w' => e = .returned (.tuple #[.int .u32 (x : Int), .int .i64 0]) ∧ AxR w0 v w' o K s t b (upd L i l) X := by
  obtain ⟨col, h⟩ := h
  refine ((hl ▸ h.mg.g i hi).pop).mono ?_
  rintro e w' ⟨rfl, hr⟩
  exact ⟨rfl, h.op hi hr (by omega)⟩
theorem Ax.llen (h : Ax w0 v o K s t b L X) (i : Nat) (hi : i < 4) : Calls Try.prog 42 #[gp (b i)] v fun e w' => e = .returned (.int .i64 ((L i).length : Int)) ∧ v = w' := by
  obtain ⟨col, h⟩ := h
  exact (h.mg.g i hi).len
theorem Ax.lhas (h : Ax w0 v o K s t b L X) (i : Nat) (hi : i < 4) (k : Nat) (hk : k < 4294967296) : Calls Try.prog 47 #[gp (b i), .int .u32 (k : Int)] v fun e w' => e = .returned (.bool (decide (k ∈ L i))) ∧ v = w' := by
  obtain ⟨col, h⟩ := h
  exact (h.mg.g i hi).has k hk
theorem Ax.lkeys (h : Ax w0 v o K s t b L X) (i : Nat) (hi : i < 4) (hl : (L i).length ≤ 1000000) : Calls Try.prog 43 #[gp (b i)] v fun e w' => ∃ u, e = .returned u ∧ w'.ownsRow v.heap.size 38 1 u (L i).length ((ints (L i)).map (Value.int .u32)) ∧ Below v.heap.size v w' := by
  obtain ⟨col, h⟩ := h
  exact (h.mg.g i hi).keys' hl
/-- the target is set -/
theorem Ax.setT (h : Ax w0 v o K s t b L X) (z : Int) : AxR w0 v (v.setCell ⟨o, 1, none⟩ (.int .i64 z)) o K s z b L X := by
  have hxo := h.xo
  obtain ⟨col, h⟩ := h
  have ho := h.olt
  have hset := fun k (hk : k ≠ o) => Below.heap_setCell v ⟨o, 1, none⟩ (.int .i64 z) k (by show k ≠ o; exact hk)
  have hsz : (v.setCell ⟨o, 1, none⟩ (.int .i64 z)).heap.size = v.heap.size := by simp
  have hk : Kp (fun k => k = o) v (v.setCell ⟨o, 1, none⟩ (.int .i64 z)) := by
    have hb := (Below.refl o v).setCell (p := ⟨o, 1, none⟩) (Nat.le_refl _) (.int .i64 z)
    exact ⟨hb.os, hb.tape, hb.output, hb.size, fun k hk hn => hset k hn⟩
  refine ⟨⟨ncol v col 5, heap_set h.box (.int .i64 z), h.mg.other hk (fun k hlt hb => ?_) (by omega), (ncol_old ho).trans h.oc, h.ol, fun k hk => ?_⟩, fun k hk => hset k (fun e => hxo (e ▸ hk)), by omega⟩
  · rw [hb, h.oc]
    exact ⟨Nat.le_refl _, h.ol⟩
  · obtain ⟨h1, h2⟩ := h.xc k hk
    exact ⟨by omega, (ncol_old h1).trans h2⟩
theorem AxR.trans {v'' : World} {K' K'' : Nat} {t' t'' : Int} {L' L'' : Nat → List Nat} (h : AxR w0 v v' o K' s t' b L' X) (h' : AxR w0 v' v'' o K'' s t'' b L'' X) : AxR w0 v v'' o K'' s t'' b L'' X :=
  ⟨h'.1, fun k hk => (h'.2.1 k hk).trans (h.2.1 k hk), Nat.le_trans h.2.2 h'.2.2⟩
theorem Ax.r (h : Ax w0 v o K s t b L X) : AxR w0 v v o K s t b L X := ⟨h, fun _ _ => rfl, Nat.le_refl _⟩
end
end Go.Proofs.Ytggimkfepcgaoaa.Arc
end
section
namespace Go.Proofs.Ytggimkfepcgaoaa.Arc
open Go Go.RowKit Kit Go.Maps Lnk Gho
abbrev ap (o : Nat) : Value := .pointer (some ⟨o, 0, none⟩)
section
variable {w0 v : World} {o K s : Nat} {t : Int} {b : Nat → Nat} {L : Nat → List Nat} {X : Nat → Prop}
set_option maxRecDepth 100000 in
theorem zero_any (h : Ax w0 v o K s t b L X) (hs : 1 ≤ s) : Calls Try.prog 124 #[ap o] v fun e w' => e = .returned (.bool false) ∧ v = w' := by
  obtain ⟨c0, -⟩ := h.cells
  have h1 : ((s : Int) == 0) = false := by rw [beq_eq_false_iff_ne]; omega
  have h2 : ¬ s = 0 := by omega
  clear h hs
  go_enter Try.func124, Try.ntmps124
  go_wp2_with fail
  go_ret
  exact ⟨rfl, rfl⟩
set_option maxRecDepth 100000 in
theorem size_any (h : Ax w0 v o K s t b L X) (hs : 1 ≤ s) : Calls Try.prog 125 #[ap o] v fun e w' => e = .returned (.int .i64 (s : Int)) ∧ v = w' := by
  have HZ := Lib.hid (zero_any h hs)
  obtain ⟨c0, -⟩ := h.cells
  clear h hs
  go_enter Try.func125, Try.ntmps125
  go_wp2_with fail
  refine HZ.out.mono ?_
  rintro e w1 ⟨rfl, rfl⟩
  go_wp2_with fail
  go_ret
  exact ⟨rfl, rfl⟩
def sums (L : Nat → List Nat) (I : List Nat) : Nat := (I.map fun i => (L i).length).sum
theorem sums_le {L : Nat → List Nat} {M : Nat} : ∀ {I : List Nat}, (∀ i ∈ I, (L i).length ≤ M) → sums L I ≤ I.length * M
  | [], _ => by simp [sums]
  | i :: I, h => by
    have h1 := sums_le (I := I) fun j hj => h j (List.mem_cons_of_mem _ hj)
    have h2 := h i (List.mem_cons_self ..)
    unfold sums at *
    rw [List.map_cons, List.sum_cons, List.length_cons, Nat.succ_mul]
    omega
theorem sums_take {L : Nat → List Nat} {I : List Nat} {j i : Nat} (h : I[j]? = some i) : sums L (I.take (j + 1)) = sums L (I.take j) + (L i).length := by
  rw [List.take_add_one, h]
  unfold sums
  simp
set_option maxRecDepth 100000 in
set_option maxHeartbeats 2000000 in
theorem len_any (h : Ax w0 v o K s t b L X) {g c : Nat} (I : List Nat) {n : Nat} (hn : I.length = n) (hI : ∀ i ∈ I, i < 4) (hc : n ≤ 4) (hrow : ∀ j i : Nat, I[j]? = some i → v.cell? ⟨g, j, none⟩ = some (.int .i64 (i : Int))) (hL : ∀ i, i < 4 → (L i).length ≤ 4096) :
    Calls Try.prog 130 #[ap o, .slice (some ⟨g, 0, none⟩) n c] v fun e w' => e = .returned (.int .i64 ((sums L I : Nat) : Int)) ∧ v = w' := by
  have HR := Lib.hid hrow
  have HI := Lib.hid (show I.length = n ∧ (∀ i ∈ I, i < 4) ∧ n ≤ 4 ∧ (∀ i, i < 4 → (L i).length ≤ 4096) from ⟨hn, hI, hc, hL⟩)
  have H := Lib.hid h
  clear h hrow hn hI hc hL
  go_enter Try.func130, Try.ntmps130
  go_wp2_with fail
  go_loopw [5, 10] (fun nv iv wr => ∃ (j : Nat) (z : Int), j ≤ n ∧ iv = .int .i64 (j : Int) ∧ nv = .int .i64 z ∧ Hid (z = ((sums L (I.take j) : Nat) : Int)) ∧ v = wr) (fun _ iv _ => n - (intOf iv).toNat)
  case atStart => exact ⟨0, 0, Nat.zero_le _, rfl, rfl, Lib.hid rfl, rfl⟩
  case round =>
    obtain ⟨j, z, hj, rfl, rfl, HZ, rfl⟩ := hrel
    by_cases hlt : j < n
    · obtain ⟨i, hi⟩ : ∃ i, I[j]? = some i := ⟨I[j]'(by rw [HI.out.1]; exact hlt), List.getElem?_eq_getElem _⟩
      have hi4 := HI.out.2.1 i (List.mem_of_getElem? hi)
      have c1 := HR.out j i hi
      have c2 := H.out.at4 i hi4
      have HL := Lib.hid (H.out.llen i hi4)
      have h1 : (j : Int) < (n : Int) := by omega
      have h2 : (0 : Int) ≤ (j : Int) := by omega
      have h3 : (i : Int) < 4 := by omega
      have h4 : (0 : Int) ≤ (i : Int) := by omega
      have wj := IntWalk.i64_in ((j : Int) + 1) (by have := HI.out; omega)
      obtain ⟨l, hl⟩ : ∃ l, (L i).length = l := ⟨_, rfl⟩
      have hl2 := HI.out.2.2.2 i hi4
      have hsl := sums_le (I := I.take j) (M := 4096) fun k hk => HI.out.2.2.2 k (HI.out.2.1 k (List.mem_of_mem_take hk))
      rw [List.length_take] at hsl
      have hmul : min j I.length * 4096 ≤ 4 * 4096 := Nat.mul_le_mul_right _ (by have := HI.out; omega)
      have wz : IntKind.i64.wrap (z + (l : Int)) = z + (l : Int) := IntWalk.i64_in _ (by have := HZ.out; omega)
      have HS := Lib.hid (show z + (l : Int) = ((sums L (I.take (j + 1)) : Nat) : Int) by rw [sums_take hi, hl, HZ.out]; omega)
      rw [hl] at HL
      clear hi hi4 hl hl2 hsl hmul
      go_wp2_with fail
      refine HL.out.mono ?_
      rintro e w1 ⟨rfl, rfl⟩
      go_wp2_with fail
      go_roundw
      case rel => exact ⟨j + 1, z + (l : Int), by omega, by go_num, rfl, HS, trivial⟩
      case measure => simp [intOf] <;> omega
    · obtain rfl : j = n := by omega
      have HS := Lib.hid (show z = ((sums L I : Nat) : Int) by rw [HZ.out, List.take_of_length_le (Nat.le_of_eq HI.out.1)])
      go_wp2_with fail
      exact bodyPost_ret (v := .int .i64 z) (by simp [results, Try.results130, go_sem]) rfl ⟨by rw [HS.out], rfl⟩
/-- the row of a call of len -/
theorem len_lit (h : Ax w0 v o K s t b L X) (I : List Nat) (cs : Array Value) {n : Nat} (hn : I.length = n) (hI : ∀ i ∈ I, i < 4) (hc : n ≤ 4) (hcs : ∀ j i : Nat, I[j]? = some i → cs[j]? = some (.int .i64 (i : Int))) (hL : ∀ i, i < 4 → (L i).length ≤ 4096) :
    Calls Try.prog 130 #[ap o, .slice (some ⟨v.heap.size, 0, none⟩) n n] (v.alloc (.cells cs 3)) fun e w' => e = .returned (.int .i64 ((sums L I : Nat) : Int)) ∧ v.alloc (.cells cs 3) = w' := by
  have hb : Below v.heap.size v (v.alloc (.cells cs 3)) := by go_grown
  refine len_any (h.below' hb) I hn hI hc (fun j i hj => ?_) hL
  have hx := (MapKept.heap_alloc v (.cells cs 3)).1
  have := hcs j i hj
  simp only [World.cell?, hx]
  simpa using this
set_option maxRecDepth 100000 in
theorem alen_any (h : Ax w0 v o K s t b L X) (hs : 1 ≤ s) (hL : ∀ i, i < 4 → (L i).length ≤ 4096) : Calls Try.prog 58 #[ap o] v fun e w' => e = .returned (.int .i64 (((L 0).length + (L 1).length : Nat) : Int)) ∧ Below v.heap.size v w' := by
  have HZ := Lib.hid (zero_any h hs)
  have hll := len_lit (n := 2) h [0, 1] #[.int .i64 0, .int .i64 1] rfl (by simp) (by omega) (fun j i hj => by match j, hj with | 0, hj => cases hj; rfl | 1, hj => cases hj; rfl | k + 2, hj => simp at hj) hL
  have e1 : sums L [0, 1] = (L 0).length + (L 1).length := by simp [sums]
  rw [e1] at hll
  have HL := Lib.hid hll
  obtain ⟨l, hl⟩ : ∃ l, (L 0).length + (L 1).length = l := ⟨_, rfl⟩
  rw [hl] at HL ⊢
  clear h hs hL hll e1 hl
  go_enter Try.func58, Try.ntmps58
  go_wp2_with fail
  refine HZ.out.mono ?_
  rintro e w1 ⟨rfl, rfl⟩
  go_wp2_with fail
  refine HL.out.mono ?_
  rintro e w1 ⟨rfl, rfl⟩
  go_wp2_with fail
  go_ret
  exact ⟨rfl, by go_grown⟩
set_option maxRecDepth 100000 in
theorem ahas_any (h : Ax w0 v o K s t b L X) (hs : 1 ≤ s) (k : Nat) (hk : k < 4294967296) : Calls Try.prog 59 #[ap o, .int .u32 (k : Int)] v fun e w' => e = .returned (.bool (decide (k ∈ L 0 ∨ k ∈ L 1))) ∧ v = w' := by
  have HZ := Lib.hid (zero_any h hs)
  have H0 := Lib.hid (h.lhas 0 (by omega) k hk)
  have H1 := Lib.hid (h.lhas 1 (by omega) k hk)
  obtain ⟨-, -, c0, c1, -⟩ := h.cells
  have e1 : decide (k ∈ L 0 ∨ k ∈ L 1) = (decide (k ∈ L 0) || decide (k ∈ L 1)) := by simp
  rw [e1]
  obtain ⟨z, hz⟩ : ∃ z : Int, (k : Int) = z := ⟨_, rfl⟩
  rw [hz] at H0 H1 ⊢
  clear h hs hz e1
  generalize decide (k ∈ L 0) = t0 at *
  generalize decide (k ∈ L 1) = t1 at *
  cases t0 with
  | true =>
    go_enter Try.func59, Try.ntmps59
    go_wp2_with fail
    refine HZ.out.mono ?_
    rintro e w1 ⟨rfl, rfl⟩
    go_wp2_with fail
    refine H0.out.mono ?_
    rintro e w1 ⟨rfl, rfl⟩
    go_wp2_with fail
    go_ret
    exact ⟨rfl, rfl⟩
  | false =>
    go_enter Try.func59, Try.ntmps59
    go_wp2_with fail
    refine HZ.out.mono ?_
    rintro e w1 ⟨rfl, rfl⟩
    go_wp2_with fail
    refine H0.out.mono ?_
    rintro e w1 ⟨rfl, rfl⟩
    go_wp2_with fail
    refine H1.out.mono ?_
    rintro e w1 ⟨rfl, rfl⟩
    go_wp2_with fail
    exact bodyPost_ret (v := .bool t1) (by simp [results, Try.results59, go_sem]) rfl ⟨by simp, rfl⟩
set_option maxRecDepth 100000 in
theorem apop_any (h : Ax w0 v o K s t b L X) (i : Nat) (hi : i < 4) {l : List Nat} {x : Nat} (hl : L i = l ++ [x]) :
    Calls Try.prog 153 #[ap o, .int .i64 (i : Int)] v fun e w' => e = .returned (.int .u32 (x : Int)) ∧ AxR w0 v w' o K s t b (upd L i l) X := by
  have HP := Lib.hid (h.pop i hi hl)
  have c0 := h.at4 i hi
  have h3 : (i : Int) < 4 := by omega
  have h4 : (0 : Int) ≤ (i : Int) := by omega
  clear h hl hi
  go_enter Try.func153, Try.ntmps153
  go_wp2_with fail
  refine HP.out.mono ?_
  rintro e w1 ⟨rfl, hr⟩
  have HR := Lib.hid hr
  clear hr
  go_wp2_with fail
  go_ret
  exact ⟨rfl, HR.out⟩
set_option maxRecDepth 100000 in
theorem amove_any (h : Ax w0 v o K s t b L X) (i j : Nat) (hi : i < 4) (hj : j < 4) (k : Nat) (hk : k < 4294967296) (hl : ((upd L i ((L i).erase k)) j).length ≤ 4096) (hK : K ≤ 1000000) :
    Calls Try.prog 128 #[ap o, .int .u32 (k : Int), .int .i64 (i : Int), .int .i64 (j : Int)] v fun e w' => e = .returned (.tuple #[]) ∧ AxR w0 v w' o (K + 1) s t b (upd (upd L i ((L i).erase k)) j (addG 4096 ((upd L i ((L i).erase k)) j) k).1) X := by
  have HP := Lib.hid (h.remove i hi k hk)
  have HA := Lib.hid (fun u (h2 : AxR w0 v u o K s t b (upd L i ((L i).erase k)) X) => h2.1.add j hj hl hK k hk)
  have c0 := h.at4 i hi
  have h3 : (i : Int) < 4 := by omega
  have h4 : (0 : Int) ≤ (i : Int) := by omega
  have h5 : (j : Int) < 4 := by omega
  have h6 : (0 : Int) ≤ (j : Int) := by omega
  have HJ := Lib.hid hj
  clear h hl hi hj
  go_enter Try.func128, Try.ntmps128
  go_wp2_with fail
  refine HP.out.mono ?_
  rintro e w1 ⟨rfl, hr⟩
  have HR := Lib.hid hr
  have c1 := hr.1.at4 j HJ.out
  clear hr c0
  go_wp2_with fail
  refine (HA.out _ HR.out).mono ?_
  rintro e w2 ⟨rfl, hr⟩
  have HR2 := Lib.hid (HR.out.trans hr)
  clear hr c1
  go_wp2_with fail
  go_returns
  exact ⟨rfl, HR2.out⟩
end
end Go.Proofs.Ytggimkfepcgaoaa.Arc
end
section
namespace Go.Proofs.Ytggimkfepcgaoaa.Arc
open Go Go.RowKit Kit Go.Maps Lnk Gho
/-- a turn -/
abbrev tv (hit left : Bool) (x : Int) : Value := .agg #[.bool hit, .bool left, .int .u32 x]
/-- from which list a key leaves -/
def fromA (L : Nat → List Nat) (t : Int) (found : Bool) : Nat := if 0 < (L 0).length ∧ (t < ((L 0).length : Int) ∨ ((L 0).length : Int) = t ∧ found = true) then 0 else 1
/-- the box of a turn -/
theorem tbox {w u : World} {c0 c1 c2 : Value} (h : u.heap[w.heap.size]? = some (.cells #[c0, c1, c2] 110 (0, 0))) : u.cell? ⟨w.heap.size, 0, none⟩ = some c0 ∧ u.cell? ⟨w.heap.size, 1, none⟩ = some c1 ∧ u.cell? ⟨w.heap.size, 2, none⟩ = some c2 ∧ ∀ j, u.frozen? ⟨w.heap.size, j, none⟩ = false := by
  refine ⟨?_, ?_, ?_, fun j => ?_⟩ <;> simp [World.cell?, World.frozen?, h]
/-- three stores into a box -/
theorem tset {u : World} {p : Nat} {c0 c1 c2 d0 d1 d2 : Value} (h : u.heap[p]? = some (.cells #[c0, c1, c2] 110 (0, 0))) :
    (((u.setCell ⟨p, 0, none⟩ d0).setCell ⟨p, 1, none⟩ d1).setCell ⟨p, 2, none⟩ d2).heap[p]? = some (.cells #[d0, d1, d2] 110 (0, 0)) ∧ Kp (fun j => j = p) u (((u.setCell ⟨p, 0, none⟩ d0).setCell ⟨p, 1, none⟩ d1).setCell ⟨p, 2, none⟩ d2) := by
  refine ⟨heap_set (j := 2) (heap_set (j := 1) (heap_set (j := 0) h d0) d1) d2, ?_⟩
  have hb := (((Below.refl p u).setCell (p := ⟨p, 0, none⟩) (Nat.le_refl _) d0).setCell (p := ⟨p, 1, none⟩) (Nat.le_refl _) d1).setCell (p := ⟨p, 2, none⟩) (Nat.le_refl _) d2
  exact ⟨hb.os, hb.tape, hb.output, hb.size, fun j hj hn => by rw [Below.heap_setCell _ ⟨p, 2, none⟩ _ j hn, Below.heap_setCell _ ⟨p, 1, none⟩ _ j hn, Below.heap_setCell _ ⟨p, 0, none⟩ _ j hn]⟩
section
variable {w0 v : World} {o K s : Nat} {t : Int} {b : Nat → Nat} {L : Nat → List Nat} {X : Nat → Prop}
/-- the state beside the turn's box bt, which was laid at the end -/
theorem AxR.unbox {v1 v2 v3 : World} {bt K' : Nat} {t' : Int} {L' : Nat → List Nat} {Y : Nat → Prop} (hb : Below v.heap.size v v1) (hY : ∀ k, X k → Y k) (hxv : ∀ k, X k → k < v.heap.size) (hbt : v.heap.size ≤ bt) (hyb : Y bt) (hw : w0.heap.size ≤ v.heap.size) (h : AxR w0 v1 v2 o K' s t' b L' Y) (hk : Kp (fun j => j = bt) v2 v3) : AxR w0 v v3 o K' s t' b L' X := by
  obtain ⟨h1, h2, h3⟩ := h
  have hs := hb.size
  have hs2 := hk.size
  refine ⟨(h1.aside hk (fun k _ hkb => by subst hkb; exact ⟨hyb, by omega⟩)).only fun k hx => .inl (hY k hx), fun k hx => ?_, by omega⟩
  have hlt := hxv k hx
  exact (hk.block k (by omega) (by omega)).trans ((h2 k (hY k hx)).trans (hb.block k hlt))
set_option maxRecDepth 100000 in
set_option maxHeartbeats 4000000 in
theorem room_free (h : Ax w0 v o K s t b L X) (hs : 1 ≤ s) (hL : ∀ i, i < 4 → (L i).length ≤ 4096) (found : Bool) (hf : (L 0).length + (L 1).length < s) :
    Calls Try.prog 152 #[ap o, .bool found] v fun e w' => e = .returned (tv false false 0) ∧ AxR w0 v w' o K s t b L X := by
  have hb0 : Below v.heap.size v (v.alloc (.cells #[.bool false, .bool false, .int .u32 0] 110)) := by go_grown
  have hx0 := (MapKept.heap_alloc v (.cells #[.bool false, .bool false, .int .u32 0] 110)).1
  have HG := Lib.hid (fun u (hb : Below v.heap.size v u) => h.below' hb)
  have HL := Lib.hid (fun u (hb : Below v.heap.size v u) => alen_any (h.below' hb) hs hL)
  have HI := Lib.hid (show ∀ k, X k → k < v.heap.size from h.xlt)
  have HV := Lib.hid (show w0.heap.size ≤ v.heap.size from h.bl.size)
  have c0 := (HG.out _ hb0).cells.1
  obtain ⟨l, hl⟩ : ∃ l, (L 0).length + (L 1).length = l := ⟨_, rfl⟩
  rw [hl] at HL hf
  have h1 : (l : Int) < (s : Int) := by omega
  have HX := Lib.hid h
  have hsz : (v.alloc (.cells #[.bool false, .bool false, .int .u32 0] 110)).heap.size = v.heap.size + 1 := by simp
  clear h hs hL hf hl
  go_enter Try.func152, Try.ntmps152
  go_wp2_with fail
  generalize v.alloc (.cells #[.bool false, .bool false, .int .u32 0] 110) = v1 at *
  have B0 := Lib.hid hb0
  have X0 := Lib.hid hx0
  have SZ := Lib.hid hsz
  have HS := Lib.hid (fun u (hb : Below v1.heap.size v1 u) => (show u.cell? ⟨o, 0, none⟩ = some (.int .i64 (s : Int)) ∧ Hid (Below v1.heap.size v1 u) from ⟨(HG.out _ (tr B0.out hb)).cells.1, Lib.hid hb⟩))
  have T1 := Lib.hid (Below.drew (Below.refl v1.heap.size v1))
  clear hb0 hx0 hsz c0
  go_region_held3 (fun u => u.cell? ⟨o, 0, none⟩ = some (.int .i64 (s : Int)) ∧ Hid (Below v1.heap.size v1 u))
    (first
      | assumption
      | exact ⟨by assumption, by assumption⟩
      | exact HS.out _ (Below.drew (Below.refl _ _))
      | fail)
    (first
      | (go_at_call 58; refine (HL.out _ (tr B0.out T1.out)).mono ?_; rintro e u2 ⟨rfl, b2⟩; obtain ⟨s1, T2⟩ := HS.out _ (tr T1.out b2); clear b2)
      | fail)
  have hx2 := (T2.out.block v.heap.size (by rw [SZ.out]; omega)).trans X0.out
  obtain ⟨z0, z1, z2, zf⟩ := tbox hx2
  have X2 := Lib.hid hx2
  clear hx2
  go_wp2_with fail
  have hb3 := (((tr B0.out T2.out).setCell (p := ⟨v.heap.size, 0, none⟩) (Nat.le_refl _) (.bool false)).setCell (p := ⟨v.heap.size, 1, none⟩) (Nat.le_refl _) (.bool false)).setCell (p := ⟨v.heap.size, 2, none⟩) (Nat.le_refl _) (.int .u32 0)
  have hx3 := (tset (d0 := .bool false) (d1 := .bool false) (d2 := .int .u32 0) X2.out).1
  generalize ((u2.setCell ⟨v.heap.size, 0, none⟩ (.bool false)).setCell ⟨v.heap.size, 1, none⟩ (.bool false)).setCell ⟨v.heap.size, 2, none⟩ (.int .u32 0) = w3 at *
  obtain ⟨y0, y1, y2, -⟩ := tbox hx3
  exact bodyPost_ret (v := tv false false 0) (by simp [results, Try.results152, go_sem, y0, y1, y2]) rfl ⟨rfl, HG.out _ hb3, fun k hk => hb3.block k (HI.out k hk), hb3.size⟩
set_option maxRecDepth 100000 in
set_option maxHeartbeats 4000000 in
theorem room_full (h : Ax w0 v o K s t b L X) (hs : 1 ≤ s) (hL : ∀ i, i < 4 → (L i).length ≤ 4096) (hK : K ≤ 1000000) (found : Bool) (hf : s ≤ (L 0).length + (L 1).length) {F : Nat} (hF : fromA L t found = F) {l : List Nat} {x : Nat} (hl : L F = l ++ [x]) (hx : x < 4294967296) :
    Calls Try.prog 152 #[ap o, .bool found] v fun e w' => e = .returned (tv false true (x : Int)) ∧ AxR w0 v w' o (K + 1) s t b (upd (upd L F l) (F + 2) (addG 4096 (L (F + 2)) x).1) X := by
  have hF2 : F < 2 := by unfold fromA at hF; split at hF <;> omega
  obtain ⟨G, hG⟩ : ∃ G, addG 4096 (L (F + 2)) x = G := ⟨_, rfl⟩
  rw [hG]
  obtain ⟨G1, gx, gl⟩ := G
  have HGG := Lib.hid hG
  clear hG
  have hb0 : Below v.heap.size v (v.alloc (.cells #[.bool false, .bool false, .int .u32 0] 110)) := by go_grown
  have hx0 := (MapKept.heap_alloc v (.cells #[.bool false, .bool false, .int .u32 0] 110)).1
  have HG := Lib.hid (fun u (hb : Below v.heap.size v u) => h.below' hb)
  have HL := Lib.hid (fun u (hb : Below v.heap.size v u) => alen_any (h.below' hb) hs hL)
  have HLL := Lib.hid (fun u (hb : Below v.heap.size v u) => len_lit (n := 1) (h.below' hb) [0] #[.int .i64 0] rfl (by simp) (by omega) (fun j i hj => by match j, hj with | 0, hj => cases hj; rfl | k + 1, hj => simp at hj) hL)
  have hsum : sums L [0] = (L 0).length := by simp [sums]
  have HI := Lib.hid (show ∀ k, X k → k < v.heap.size from h.xlt)
  have HV := Lib.hid (show w0.heap.size ≤ v.heap.size from h.bl.size)
  have c0 := (HG.out _ hb0).cells.1
  obtain ⟨n, hn⟩ : ∃ n, (L 0).length = n := ⟨_, rfl⟩
  obtain ⟨m, hm⟩ : ∃ m, (L 0).length + (L 1).length = m := ⟨_, rfl⟩
  rw [hm] at HL hf
  rw [hsum, hn] at HLL
  unfold fromA at hF
  rw [hn] at hF
  have HF := Lib.hid (show (if 0 < n ∧ (t < (n : Int) ∨ (n : Int) = t ∧ found = true) then 0 else 1) = F from hF)
  have h1 : ¬ (m : Int) < (s : Int) := by omega
  have HX := Lib.hid (show (∀ i, i < 4 → (L i).length ≤ 4096) ∧ K ≤ 1000000 ∧ L F = l ++ [x] ∧ x < 4294967296 ∧ F < 2 ∧ Ax w0 v o K s t b L X from ⟨hL, hK, hl, hx, hF2, h⟩)
  have hsz : (v.alloc (.cells #[.bool false, .bool false, .int .u32 0] 110)).heap.size = v.heap.size + 1 := by simp
  clear h hs hL hf hl hK hF hx hF2 hm hn hsum
  go_enter Try.func152, Try.ntmps152
  go_wp2_with fail
  generalize v.alloc (.cells #[.bool false, .bool false, .int .u32 0] 110) = v1 at *
  have B0 := Lib.hid hb0
  have X0 := Lib.hid hx0
  have SZ := Lib.hid hsz
  have HS := Lib.hid (fun u (hb : Below v1.heap.size v1 u) => (show u.cell? ⟨o, 0, none⟩ = some (.int .i64 (s : Int)) ∧ Hid (Below v1.heap.size v1 u) from ⟨(HG.out _ (tr B0.out hb)).cells.1, Lib.hid hb⟩))
  have T1 := Lib.hid (Below.drew (Below.refl v1.heap.size v1))
  clear hb0 hx0 hsz c0
  go_region_held3 (fun u => u.cell? ⟨o, 0, none⟩ = some (.int .i64 (s : Int)) ∧ Hid (Below v1.heap.size v1 u))
    (first
      | assumption
      | exact ⟨by assumption, by assumption⟩
      | exact HS.out _ (Below.drew (Below.refl _ _))
      | fail)
    (first
      | (go_at_call 58; refine (HL.out _ (tr B0.out T1.out)).mono ?_; rintro e u2 ⟨rfl, b2⟩; obtain ⟨s1, T2⟩ := HS.out _ (tr T1.out b2); clear b2)
      | fail)
  clear T1
  go_wp2_with fail
  refine (HLL.out _ (tr B0.out T2.out)).mono ?_
  rintro e u3 ⟨rfl, hu3⟩
  have T3 := Lib.hid (show Below v1.heap.size v1 u3 from by rw [← hu3]; exact tr T2.out (by go_grown))
  clear hu3 T2 s1
  go_upto_region 5 with fail
  have c1 := (HG.out _ (tr B0.out T3.out)).cells.2.1
  go_cut [40] (fun c wx => c = .bool (decide (F = 0)) ∧ wx = u3)
  case first =>
    by_cases h0 : 0 < n
    · have h0' : (0 : Int) < (n : Int) := by omega
      by_cases h2 : t < (n : Int)
      · have hd : decide (F = 0) = true := decide_eq_true (by have := HF.out; rw [if_pos ⟨h0, .inl h2⟩] at this; omega)
        have HD := Lib.hid hd
        clear hd
        go_wp2_with fail
        go_meet
        case rel => exact ⟨by rw [HD.out], rfl⟩
      · by_cases h3 : (n : Int) = t
        · subst h3
          cases found with
          | true =>
            have hd : decide (F = 0) = true := decide_eq_true (by have := HF.out; rw [if_pos ⟨h0, .inr ⟨rfl, rfl⟩⟩] at this; omega)
            have HD := Lib.hid hd
            clear hd
            go_wp2_with fail
            go_meet
            case rel => exact ⟨by rw [HD.out], rfl⟩
          | false =>
            have hd : decide (F = 0) = false := decide_eq_false (by have := HF.out; rw [if_neg (by intro h; simp at h)] at this; omega)
            have HD := Lib.hid hd
            clear hd
            go_wp2_with fail
            go_meet
            case rel => exact ⟨by rw [HD.out], rfl⟩
        · have h3b : ((n : Int) == t) = false := by rw [beq_eq_false_iff_ne]; exact h3
          have hd : decide (F = 0) = false := decide_eq_false (by have := HF.out; rw [if_neg (by intro h; rcases h.2 with h | h; exact h2 h; exact h3 h.1)] at this; omega)
          have HD := Lib.hid hd
          clear hd
          go_wp2_with fail
          go_meet
          case rel => exact ⟨by rw [HD.out], rfl⟩
    · have h0' : ¬ (0 : Int) < (n : Int) := by omega
      have hd : decide (F = 0) = false := decide_eq_false (by have := HF.out; rw [if_neg (fun h => h0 h.1)] at this; omega)
      have HD := Lib.hid hd
      clear hd
      go_wp2_with fail
      go_meet
      case rel => exact ⟨by rw [HD.out], rfl⟩
  case rest =>
    obtain ⟨rfl, rfl⟩ := hcut
    have hY := ((HX.out.2.2.2.2.2.below (tr B0.out T3.out)).only (X' := fun k => X k ∨ k = v.heap.size) fun k hk => hk.imp id fun e => by have := SZ.out; have := T3.out.size; omega)
    have hbx := (T3.out.block v.heap.size (by have := SZ.out; omega)).trans X0.out
    have hF2 := HX.out.2.2.2.2.1
    have HP := Lib.hid (apop_any hY F (by omega) HX.out.2.2.1)
    have e2 : upd L F l (F + 2) = L (F + 2) := by unfold upd; rw [if_neg (by omega)]
    have HA := Lib.hid (fun u (h2 : AxR w0 wc u o K s t b (upd L F l) (fun k => X k ∨ k = v.heap.size)) => e2 ▸ h2.1.add (F + 2) (by omega) (by rw [e2]; exact HX.out.1 _ (by omega)) HX.out.2.1 x HX.out.2.2.2.1)
    have HBX := Lib.hid hbx
    rw [HGG.out] at HA
    have HVB := Lib.hid (tr B0.out T3.out)
    clear hY hbx e2 HS HLL HL h1 c1 HF
    have hF01 : F = 0 ∨ F = 1 := by omega
    clear hF2
    rcases hF01 with rfl | rfl
    all_goals (
      go_wp2_with fail
      refine HP.out.mono ?_
      rintro e w4 ⟨rfl, hr⟩
      have HR := Lib.hid hr
      obtain ⟨-, -, -, -, c2, c3, -⟩ := hr.1.cells
      clear hr
      go_wp2_with fail
      refine (HA.out _ HR.out).mono ?_
      rintro e w5 ⟨rfl, hr⟩
      have HR2 := Lib.hid (HR.out.trans hr)
      have hx5 := (HR2.out.2.1 v.heap.size (.inr rfl)).trans HBX.out
      obtain ⟨z0, z1, z2, zf⟩ := tbox hx5
      have X5 := Lib.hid hx5
      clear hr c2 c3 hx5
      go_wp2_with fail
      obtain ⟨hx6, hk6⟩ := tset (d0 := .bool false) (d1 := .bool true) (d2 := .int .u32 (x : Int)) X5.out
      generalize ((w5.setCell ⟨v.heap.size, 0, none⟩ (.bool false)).setCell ⟨v.heap.size, 1, none⟩ (.bool true)).setCell ⟨v.heap.size, 2, none⟩ (.int .u32 (x : Int)) = w6 at *
      obtain ⟨y0, y1, y2, -⟩ := tbox hx6
      exact bodyPost_ret (v := tv false true (x : Int)) (by simp [results, Try.results152, go_sem, y0, y1, y2]) rfl ⟨rfl, AxR.unbox HVB.out (fun k hk => .inl hk) HI.out (Nat.le_refl _) (.inr rfl) HV.out HR2.out hk6⟩)
end
end Go.Proofs.Ytggimkfepcgaoaa.Arc
end
section
namespace Go.Proofs.Ytggimkfepcgaoaa.Arc
open Go Go.RowKit Kit Go.Maps Lnk Gho
section
variable {w0 v : World} {o K s : Nat} {t : Int} {b : Nat → Nat} {L : Nat → List Nat} {X : Nat → Prop}
theorem len_one (h : Ax w0 v o K s t b L X) (hL : ∀ i, i < 4 → (L i).length ≤ 4096) (u : World) (hb : Below v.heap.size v u) (i g : Nat) (hi : i < 4) (hc : u.cell? ⟨g, 0, none⟩ = some (.int .i64 (i : Int))) :
    Calls Try.prog 130 #[ap o, .slice (some ⟨g, 0, none⟩) 1 1] u fun e w' => e = .returned (.int .i64 (((L i).length : Nat) : Int)) ∧ u = w' := by
  have h1 := len_any (g := g) (c := 1) (n := 1) (h.below' hb) [i] rfl (by simpa using hi) (by omega) (fun j k hj => by match j, hj with | 0, hj => cases hj; exact hc | j + 1, hj => simp at hj) hL
  rwa [show sums L [i] = (L i).length by simp [sums]] at h1
/-- what the target becomes where a key was found in the ghosts of once, or of often -/
def tgt2 (s : Nat) (t : Int) (L : Nat → List Nat) : Int := min (s : Int) (t + max 1 (Int.tdiv ((L 3).length : Int) ((L 2).length : Int)))
def tgt3 (t : Int) (L : Nat → List Nat) : Int := max 0 (t - max 1 (Int.tdiv ((L 2).length : Int) ((L 3).length : Int)))
set_option maxRecDepth 100000 in
set_option maxHeartbeats 4000000 in
theorem again_hit (h : Ax w0 v o K s t b L X) (i : Nat) (hi : i < 2) :
    Calls Try.prog 127 #[ap o, .int .i64 (i : Int)] v fun e w' => e = .returned (tv true false 0) ∧ AxR w0 v w' o K s t b L X := by
  have hb0 : Below v.heap.size v (v.alloc (.cells #[.bool false, .bool false, .int .u32 0] 110)) := by go_grown
  have hx0 := (MapKept.heap_alloc v (.cells #[.bool false, .bool false, .int .u32 0] 110)).1
  obtain ⟨z0, z1, z2, zf⟩ := tbox hx0
  have X0 := Lib.hid hx0
  have B0 := Lib.hid hb0
  have HX := Lib.hid h
  have h1 : ¬ (i : Int) = 2 := by omega
  have h2 : ¬ (i : Int) = 3 := by omega
  clear h hi hx0 hb0
  go_enter Try.func127, Try.ntmps127
  go_wp2_with fail
  have hb3 : Below v.heap.size v (v.alloc (.cells #[.bool true, .bool false, .int .u32 0] 110)) := by go_grown
  have hx3 := (MapKept.heap_alloc v (.cells #[.bool true, .bool false, .int .u32 0] 110)).1
  generalize v.alloc (.cells #[.bool true, .bool false, .int .u32 0] 110) = w3 at *
  obtain ⟨y0, y1, y2, -⟩ := tbox hx3
  exact bodyPost_ret (v := tv true false 0) (by simp [results, Try.results127, go_sem, y0, y1, y2]) rfl ⟨rfl, HX.out.below' hb3, fun k hk => hb3.block k (HX.out.xlt k hk), hb3.size⟩
/-- what makeRoom gives: a turn, and the state -/
def RoomQ (w0 v : World) (o K s : Nat) (t : Int) (b : Nat → Nat) (X : Nat → Prop) (left : Bool) (x : Nat) (L' : Nat → List Nat) (e : Ending) (w' : World) : Prop := e = .returned (tv false left (x : Int)) ∧ AxR w0 v w' o (K + 1) s t b L' X
end
end Go.Proofs.Ytggimkfepcgaoaa.Arc
end
