/-
  Adaptive replacement (layer 29): Drop, Lists, New.
-/
import Derived.Test.YtggimkfepcgaoaaArcI
import Derived.Deep.LoopGhost
import Derived.Deep.CutBlock
import Derived.Deep.DeepCutAuto
set_option linter.unusedVariables false
set_option linter.unusedSimpArgs false
section
namespace Go.Proofs.Ytggimkfepcgaoaa.Arc
open Go Go.RowKit Kit Go.Maps Lnk Gho
section
variable {w0 v : World} {o K s : Nat} {t : Int} {b : Nat → Nat} {L : Nat → List Nat} {X : Nat → Prop}
/-- a key is dropped -/
def dropA (L : Nat → List Nat) (k : Nat) : Nat → List Nat := upd (upd L 0 ((L 0).erase k)) 1 ((L 1).erase k)
set_option maxRecDepth 100000 in
set_option maxHeartbeats 2000000 in
theorem drop_any (h : Ax w0 v o K s t b L X) (hs : 1 ≤ s) (k : Nat) (hk : k < 4294967296) :
    Calls Try.prog 57 #[ap o, .int .u32 (k : Int)] v fun e w' => e = .returned (.tuple #[.bool (decide (k ∈ L 0 ∨ k ∈ L 1)), .int .i64 0]) ∧ AxR w0 v w' o K s t b (dropA L k) X := by
  have HZ := Lib.hid (zero_any h hs)
  have HH := Lib.hid (ahas_any h hs k hk)
  have H0 := Lib.hid (h.remove 0 (by omega) k hk)
  have e1 : upd L 0 ((L 0).erase k) 1 = L 1 := upd_other (by omega)
  have H1 := Lib.hid (fun u (h2 : AxR w0 v u o K s t b (upd L 0 ((L 0).erase k)) X) => e1 ▸ h2.1.remove 1 (by omega) k hk)
  obtain ⟨-, -, c2, -⟩ := h.cells
  obtain ⟨z, hz⟩ : ∃ z : Int, (k : Int) = z := ⟨_, rfl⟩
  obtain ⟨tt, ht⟩ : ∃ tt, decide (k ∈ L 0 ∨ k ∈ L 1) = tt := ⟨_, rfl⟩
  rw [ht] at HH ⊢
  rw [hz] at HH H0 H1 ⊢
  clear h hs hk e1 hz ht
  go_enter Try.func57, Try.ntmps57
  go_wp2_with fail
  refine HZ.out.mono ?_
  rintro e w1 ⟨rfl, rfl⟩
  go_wp2_with fail
  refine HH.out.mono ?_
  rintro e w1 ⟨rfl, rfl⟩
  go_wp2_with fail
  refine H0.out.mono ?_
  rintro e w1 ⟨rfl, hr⟩
  have HR := Lib.hid hr
  obtain ⟨-, -, -, c3, -⟩ := hr.1.cells
  clear hr c2
  go_wp2_with fail
  refine (H1.out _ HR.out).mono ?_
  rintro e w2 ⟨rfl, hr⟩
  have HR2 := Lib.hid (HR.out.trans hr)
  clear hr c3
  go_wp2_with fail
  exact bodyPost_ret (v := .tuple #[.bool tt, .int .i64 0]) (by simp [results, Try.results57, go_sem]) rfl ⟨rfl, HR2.out⟩
/-- four rows -/
def Rows4 (w' : World) (L : Nat → List Nat) (p0 p1 p2 p3 : Option Addr) : Prop := Ru w' p0 (ints (L 0)) ∧ Ru w' p1 (ints (L 1)) ∧ Ru w' p2 (ints (L 2)) ∧ Ru w' p3 (ints (L 3))
theorem row_ruA {w : World} {B n : Nat} {v : Value} {l : List Int} (h : w.ownsRow B 38 1 v n (l.map (Value.int .u32))) (hl : l.length = n) : ∃ p c, v = .slice p n c ∧ Ru w p l := by
  subst hl
  rcases own_cases h with ⟨rfl, rfl⟩ | ⟨g, cap, rfl, h1, h2, h3, h4, h5⟩
  · exact ⟨none, 0, rfl, fun i x hx => by simp at hx⟩
  · refine ⟨_, cap, rfl, fun i x hx => ?_⟩
    obtain ⟨hi, he⟩ := List.getElem?_eq_some_iff.1 hx
    exact ⟨_, rfl, h2, by rw [add2]; have := h5 i hi; rw [he] at this; exact this⟩
set_option maxRecDepth 100000 in
set_option maxHeartbeats 4000000 in
theorem lists_any (h : Ax w0 v o K s t b L X) (hs : 1 ≤ s) (hL : ∀ i, i < 4 → (L i).length ≤ 4096) {n0 n1 n2 n3 : Nat} (h0 : (L 0).length = n0) (h1 : (L 1).length = n1) (h2 : (L 2).length = n2) (h3 : (L 3).length = n3) :
    Calls Try.prog 54 #[ap o] v fun e w' => ∃ p0 p1 p2 p3 k0 k1 k2 k3, e = .returned (.tuple #[.slice p0 n0 k0, .slice p1 n1 k1, .slice p2 n2 k2, .slice p3 n3 k3, .int .i64 t]) ∧ Rows4 w' L p0 p1 p2 p3 ∧ Below v.heap.size v w' := by
  have HZ := Lib.hid (zero_any h hs)
  have HK := Lib.hid (fun u (hb : Below v.heap.size v u) i hi => (h.below' hb).lkeys i hi (by have := hL i hi; omega))
  have HS := Lib.hid (fun u (hb : Below v.heap.size v u) => (show u.cell? ⟨o, 1, none⟩ = some (.int .i64 t) ∧ u.cell? ⟨o, 2, none⟩ = some (gp (b 0)) ∧ u.cell? ⟨o, 3, none⟩ = some (gp (b 1)) ∧ u.cell? ⟨o, 4, none⟩ = some (gp (b 2)) ∧ u.cell? ⟨o, 5, none⟩ = some (gp (b 3)) ∧ Hid (Below v.heap.size v u) from by
    obtain ⟨-, c1, c2, c3, c4, c5, -⟩ := (h.below' hb).cells
    exact ⟨c1, c2, c3, c4, c5, Lib.hid hb⟩))
  have HN := Lib.hid (show (L 0).length = n0 ∧ (L 1).length = n1 ∧ (L 2).length = n2 ∧ (L 3).length = n3 from ⟨h0, h1, h2, h3⟩)
  clear h hs hL h0 h1 h2 h3
  go_enter Try.func54, Try.ntmps54
  go_wp2_with fail
  refine HZ.out.mono ?_
  rintro e w1 ⟨rfl, rfl⟩
  clear HZ
  go_wp2_with fail
  have T0 := Lib.hid (Below.drew (Below.refl v.heap.size v))
  have S0 := Lib.hid (HS.out _ T0.out)
  go_region_held3 (fun u => u.cell? ⟨o, 1, none⟩ = some (.int .i64 t) ∧ u.cell? ⟨o, 2, none⟩ = some (gp (b 0)) ∧ u.cell? ⟨o, 3, none⟩ = some (gp (b 1)) ∧ u.cell? ⟨o, 4, none⟩ = some (gp (b 2)) ∧ u.cell? ⟨o, 5, none⟩ = some (gp (b 3)) ∧ Hid (Below v.heap.size v u))
    (first
      | with_reducible exact S0.out
      | with_reducible exact S1.out
      | with_reducible exact S2.out
      | with_reducible exact S3.out
      | with_reducible exact S4.out
      | assumption
      | fail)
    (first
      | (go_at_call 43; refine (HK.out _ T3.out 3 (by omega)).mono ?_; rintro e u4 ⟨u, rfl, hrow, b4⟩; rw [HN.out.2.2.2] at hrow; obtain ⟨p3, k3, rfl, r3⟩ := row_ruA hrow (by rw [ints_len]; exact HN.out.2.2.2); have T4 := Lib.hid (tr T3.out b4); have RR4 := Lib.hid (And.intro r3 b4); have S4 := Lib.hid (HS.out _ T4.out); clear hrow r3 b4)
      | (go_at_call 43; refine (HK.out _ T2.out 2 (by omega)).mono ?_; rintro e u3 ⟨u, rfl, hrow, b3⟩; rw [HN.out.2.2.1] at hrow; obtain ⟨p2, k2, rfl, r2⟩ := row_ruA hrow (by rw [ints_len]; exact HN.out.2.2.1); have T3 := Lib.hid (tr T2.out b3); have RR3 := Lib.hid (And.intro r2 b3); have S3 := Lib.hid (HS.out _ T3.out); clear hrow r2 b3)
      | (go_at_call 43; refine (HK.out _ T1.out 1 (by omega)).mono ?_; rintro e u2 ⟨u, rfl, hrow, b2⟩; rw [HN.out.2.1] at hrow; obtain ⟨p1, k1, rfl, r1⟩ := row_ruA hrow (by rw [ints_len]; exact HN.out.2.1); have T2 := Lib.hid (tr T1.out b2); have RR2 := Lib.hid (And.intro r1 b2); have S2 := Lib.hid (HS.out _ T2.out); clear hrow r1 b2)
      | (go_at_call 43; refine (HK.out _ T0.out 0 (by omega)).mono ?_; rintro e u1 ⟨u, rfl, hrow, b1⟩; rw [HN.out.1] at hrow; obtain ⟨p0, k0, rfl, r0⟩ := row_ruA hrow (by rw [ints_len]; exact HN.out.1); have T1 := Lib.hid (tr T0.out b1); have RR1 := Lib.hid (And.intro r0 b1); have S1 := Lib.hid (HS.out _ T1.out); clear hrow r0 b1)
      | fail)
  go_wp2_with fail
  have q4 := RR4.out.2
  have q3 := RR3.out.2
  have q2 := RR2.out.2
  exact bodyPost_ret (v := .tuple #[.slice p0 n0 k0, .slice p1 n1 k1, .slice p2 n2 k2, .slice p3 n3 k3, .int .i64 t]) (by simp [results, Try.results54, go_sem]) rfl ⟨p0, p1, p2, p3, k0, k1, k2, k3, rfl, ⟨((RR1.out.1.below q2).below q3).below q4, (RR2.out.1.below q3).below q4, RR3.out.1.below q4, RR4.out.1⟩, T4.out⟩
end
end Go.Proofs.Ytggimkfepcgaoaa.Arc
end
section
namespace Go.Proofs.Ytggimkfepcgaoaa.Arc
open Go Go.RowKit Kit Go.Maps Lnk Gho
/-- a new list is a list whose blocks lie behind u's end -/
theorem gs_at {w0 u w' : World} {b K B : Nat} {most : Int} {keys : List Nat} (h : Gs u w' b K B most keys) (hb : Below w0.heap.size w0 u) : Gx w0 w' b K B most keys (fun k => k < u.heap.size) := by
  obtain ⟨c, q, r, cq, cr, N, F, g, kc, m, nm, D, L, fr, KL, h1, h2, h3, h4, h5, h6⟩ := h
  have hs := hb.size
  have hs6 := h6.size
  refine ⟨c, q, r, cq, cr, N, F, g, kc, m, nm, D, L, fr, KL, h1, h2, h3, h4, by omega, ((Kp.of (bad := fun _ => False) hb).tr h6).below (fun k hk h => h) (Nat.le_refl _), fun k hk hx => ?_, fun k hx => by omega⟩
  rcases hk with h | (h | h | h) | h | h <;> omega
/-- the pointers of the first j lists -/
def ptrs (b : Nat → Nat) (j i : Nat) : Value := if i < j then gp (b i) else .pointer none
/-- a cache in the making: j lists -/
structure An (w0 v : World) (o s j : Nat) (b : Nat → Nat) (col : Nat → Nat) : Prop where
  box : v.heap[o]? = some (.cells #[.int .i64 (s : Int), .int .i64 0, ptrs b j 0, ptrs b j 1, ptrs b j 2, ptrs b j 3] 172 (0, 0))
  mg : Mg w0 v 0 10000 b (fun _ => []) j col
  oc : col o = 9
  ol : w0.heap.size ≤ o
  cc : ∀ k, k < v.heap.size → col k < j ∨ col k = 9
  jl : j ≤ 4
theorem An.cells {w0 v : World} {o s j : Nat} {b col : Nat → Nat} (h : An w0 v o s j b col) (hj : j < 4) : v.cell? ⟨o, 2 + j, none⟩ = some (.pointer none) ∧ v.frozen? ⟨o, 2 + j, none⟩ = false ∧ o < v.heap.size := by
  have hb := h.box
  refine ⟨?_, by simp [World.frozen?, hb], (Array.getElem?_eq_some_iff.1 hb).1⟩
  match j, hj with
  | 0, _ => simp [World.cell?, hb, ptrs]
  | 1, _ => simp [World.cell?, hb, ptrs]
  | 2, _ => simp [World.cell?, hb, ptrs]
  | 3, _ => simp [World.cell?, hb, ptrs]
theorem An.next {w0 v v' : World} {o s j b' : Nat} {b col : Nat → Nat} (h : An w0 v o s j b col) (hj : j < 4) (hg : Gs v v' b' 0 1 4096 []) : ∃ b2 col2, An w0 (v'.setCell ⟨o, 2 + j, none⟩ (gp b')) o s (j + 1) b2 col2 ∧ b2 j = b' := by
  have hbv := hg.bl
  have ho := (Array.getElem?_eq_some_iff.1 h.box).1
  have hs0 := h.mg.bl.size
  have hbx := (hbv.block o ho).trans h.box
  have m1 := h.mg.new (c := j) hbv (Nat.le_refl _)
  have hgx := (gs_at hg h.mg.bl).mono (Nat.le_refl 0) (show 1 ≤ 10000 by omega)
  have hb2 := (Below.refl o v').setCell (p := ⟨o, 2 + j, none⟩) (Nat.le_refl _) (gp b')
  have hk : Kp (fun k => k = o) v' (v'.setCell ⟨o, 2 + j, none⟩ (gp b')) := ⟨hb2.os, hb2.tape, hb2.output, hb2.size, fun k hk hn => Below.heap_setCell v' ⟨o, 2 + j, none⟩ _ k hn⟩
  have hc := ncol_old (col := col) (c := j) ho
  have hf := heap_set (j := 2 + j) hbx (gp b')
  have hsz := hbv.size
  have m2 : Mg w0 v' 0 10000 (fun i => if i = j then b' else b i) (fun _ => []) (j + 1) (ncol v col j) := by
    refine ⟨fun i hi => ?_, fun k hk => ?_, m1.bl⟩
    · by_cases hij : i = j
      · subst hij
        simp only [if_true]
        refine hgx.only fun k hx => ?_
        by_cases hlt : k < v.heap.size
        · exact hlt
        · rw [ncol_new (by omega)] at hx
          exact absurd rfl hx.2
      · simp only [if_neg hij]
        exact m1.g i (by omega)
    · by_cases hlt : k < v.heap.size
      · rw [ncol_old hlt] at hk
        rcases Nat.lt_or_ge (col k) j with h1 | h1
        · exact h.mg.lo k h1
        · have := h.cc k hlt; omega
      · omega
  refine ⟨_, _, ⟨?_, m2.other (c := 9) hk (fun k hlt hkb => ?_) (by omega), ?_, h.ol, fun k hk => ?_, by omega⟩, if_pos rfl⟩
  · rw [hf]
    match j, hj with
    | 0, _ => simp [ptrs]
    | 1, _ => simp [ptrs]
    | 2, _ => simp [ptrs]
    | 3, _ => simp [ptrs]
  · subst hkb
    rw [hc, h.oc]
    exact ⟨by omega, h.ol⟩
  · rw [ncol_old (by omega), hc, h.oc]
  · rw [World.size_setCell] at hk
    rw [ncol_old hk]
    by_cases hlt : k < v.heap.size
    · rw [ncol_old hlt]; have := h.cc k hlt; omega
    · rw [ncol_new (by omega)]; omega
theorem An.drew {w0 v : World} {o s j : Nat} {b col : Nat → Nat} (h : An w0 v o s j b col) : An w0 v.drew o s j b col :=
  ⟨h.box, ⟨fun i hi => (h.mg.g i hi).below' (Below.drew (Below.refl _ _)), h.mg.lo, tr h.mg.bl (Below.drew (Below.refl _ _))⟩, h.oc, h.ol, h.cc, h.jl⟩
theorem An.ax {w0 v : World} {o s : Nat} {b col : Nat → Nat} (h : An w0 v o s 4 b col) : Ax w0 v o 0 s 0 b (fun _ => []) (fun _ => False) := by
  refine ⟨fun k => if col k < 4 then col k else 4, h.box, ⟨fun i hi => (h.mg.g i hi).only fun k hk => ⟨hk.1, fun e => hk.2 ?_⟩, fun k hk => h.mg.lo k ?_, h.mg.bl⟩, ?_, h.ol, fun k hk => hk.elim⟩
  · show (if col k < 4 then col k else 4) = i
    rw [if_pos (by omega)]; exact e
  · have hk' : (if col k < 4 then col k else 4) < 4 := hk
    split at hk' <;> omega
  · show (if col o < 4 then col o else 4) = 4
    rw [if_neg (by rw [h.oc]; omega)]
set_option maxRecDepth 100000 in
set_option maxHeartbeats 4000000 in
theorem new_any (w : World) (s : Nat) (s1 : 1 ≤ s) (s2 : s ≤ 1024) :
    Calls Try.prog 51 #[.int .i64 (s : Int)] w fun e w' => ∃ o b, e = .returned (.tuple #[ap o, .int .i64 0]) ∧ Ax w w' o 0 s 0 b (fun _ => []) (fun _ => False) := by
  have h1 : ¬ (s : Int) < 1 := by omega
  have h2 : ¬ 1024 < (s : Int) := by omega
  have hb0 : Below w.heap.size w (w.alloc (.cells #[.int .i64 (s : Int), .int .i64 0, .pointer none, .pointer none, .pointer none, .pointer none] 172)) := by go_grown
  have A0 := Lib.hid (show An w (w.alloc (.cells #[.int .i64 (s : Int), .int .i64 0, .pointer none, .pointer none, .pointer none, .pointer none] 172)) w.heap.size s 0 (fun _ => 0) (fun _ => 9) from
    ⟨(MapKept.heap_alloc w _).1, ⟨fun i hi => by omega, fun k hk => by omega, hb0⟩, rfl, Nat.le_refl _, fun _ _ => .inr rfl, by omega⟩)
  clear s1 s2 hb0
  go_enter Try.func51, Try.ntmps51
  go_wp2_with fail
  generalize w.alloc (.cells #[.int .i64 (s : Int), .int .i64 0, .pointer none, .pointer none, .pointer none, .pointer none] 172) = w1 at *
  go_loopw [15] (fun iv wr => ∃ (j : Nat) (b col : Nat → Nat), iv = .int .i64 (j : Int) ∧ Hid (An w wr w.heap.size s j b col)) (fun iv _ => 4 - (intOf iv).toNat)
  case atStart => exact ⟨0, _, _, rfl, A0⟩
  case round =>
    obtain ⟨j, b, col, rfl, HA⟩ := hrel
    clear A0
    by_cases hlt : j < 4
    · have d1 : (j : Int) < 4 := by omega
      have d2 : (0 : Int) ≤ (j : Int) := by omega
      have wj := IntWalk.i64_in ((j : Int) + 1) (by omega)
      have HG := Lib.hid (gnew_ok wr.drew 4096 (by omega))
      have HX := Lib.hid hlt
      clear hlt
      go_upto_region 7 with fail
      go_region_with (first
        | (go_at_call 36; refine HG.out.mono ?_; rintro e u ⟨b', rfl, gs⟩; have GS := Lib.hid gs; have f0 : u.cell? ⟨w.heap.size, 2 + j, none⟩ = some (.pointer none) := ((gs.bl.cell (p := ⟨w.heap.size, 2 + j, none⟩) (HA.out.cells HX.out).2.2).trans (HA.out.cells HX.out).1); have f1 : u.frozen? ⟨w.heap.size, 2 + j, none⟩ = false := ((gs.bl.frozen (p := ⟨w.heap.size, 2 + j, none⟩) (HA.out.cells HX.out).2.2).trans (HA.out.cells HX.out).2.1); clear gs)
        | fail)
      obtain ⟨b2, col2, h2, -⟩ := HA.out.drew.next HX.out GS.out
      have H2 := Lib.hid h2
      clear h2 f0 f1 GS HG
      go_wp2_with fail
      go_roundw
      case rel => exact ⟨j + 1, b2, col2, by go_num, H2⟩
      case measure => have := HX.out; simp [intOf] <;> omega
    · have d1 : ¬ (j : Int) < 4 := by omega
      obtain rfl : j = 4 := by have := HA.out.jl; omega
      go_wp2_with fail
      exact bodyPost_ret (v := .tuple #[ap w.heap.size, .int .i64 0]) (by simp [results, Try.results51, go_sem]) rfl ⟨w.heap.size, rfl, b, HA.out.ax⟩
end Go.Proofs.Ytggimkfepcgaoaa.Arc
end
