/-
  Entries (layer 4): the law without a reference.
-/
import Derived.Test.YtlpepmhpnmnpkaaDoorEnpJ
import Derived.Deep.RegionHeld3
set_option linter.unusedVariables false
set_option linter.unusedSimpArgs false
namespace Go.Proofs.YtlpepmhpnmnpkaaDoor.Ent
open Go Go.RowKit Kit
set_option maxRecDepth 100000 in
theorem few_three (q : Nat) (ka kb kc : ByteArray) (p1 p2 p3 : Option Addr) (l1 c1 l2 c2 l3 c3 : Nat) (da db dc ba bb bc : Int) (t : TypeId) (fr : Nat × Nat) (w : World)
    (h : w.heap[q]? = some (.cells #[.string ka, .slice p1 l1 c1, .int .u64 da, .int .u64 ba, .string kb, .slice p2 l2 c2, .int .u64 db, .int .u64 bb, .string kc, .slice p3 l3 c3, .int .u64 dc, .int .u64 bc] t fr)) :
    Calls Tryd.prog 14 #[.slice (some ⟨q, 0, none⟩) 3 3] w fun e w' => e = .returned (.bool (decide (ka.size ≤ 600) && decide (l1 ≤ 600) && decide (kb.size ≤ 600) && decide (l2 ≤ 600) && decide (kc.size ≤ 600) && decide (l3 ≤ 600))) ∧ Below w.heap.size w w' := by
  have hq : q < w.heap.size := (Array.getElem?_eq_some_iff.1 h).1
  have hc : ∀ j v, (#[.string ka, .slice p1 l1 c1, .int .u64 da, .int .u64 ba, .string kb, .slice p2 l2 c2, .int .u64 db, .int .u64 bb, .string kc, .slice p3 l3 c3, .int .u64 dc, .int .u64 bc] : Array Value)[j]? = some v → w.cell? ⟨q, j, none⟩ = some v := fun j v e => by simp [World.cell?, h, e]
  have k0 := hc 0 _ rfl; have k1 := hc 1 _ rfl; have k2 := hc 2 _ rfl; have k3 := hc 3 _ rfl; have k4 := hc 4 _ rfl; have k5 := hc 5 _ rfl; have k6 := hc 6 _ rfl; have k7 := hc 7 _ rfl; have k8 := hc 8 _ rfl; have k9 := hc 9 _ rfl; have k10 := hc 10 _ rfl; have k11 := hc 11 _ rfl
  clear hc h
  simp only [List.getElem_toArray, List.getElem_cons_zero, List.getElem_cons_succ] at k0 k1 k2 k3 k4 k5 k6 k7 k8 k9 k10 k11
  go_enter Tryd.func14, Tryd.ntmps14
  go_wp2_with fail
  all_goals (refine wp_loop_rounds 4 ?_)
  repeat any_goals (rw [rounds_succ]; go_wp2_with fail)
  all_goals (go_ret; refine ⟨ret_bool ?_, by go_grown⟩)
  all_goals (first | (simp_all; done) | (rw [Bool.eq_iff_iff]; simp; omega) | (simp; omega) | trace_state)
/-- three variables that hold entries -/
structure T3 (W w : World) (q : Nat) (ka kb kc : ByteArray) (p1 p2 p3 : Option Addr) (l1 c1 l2 c2 l3 c3 : Nat) (da db dc ba bb bc : Int) : Prop where
  a : BoxE w q ka p1 l1 c1 da ba
  b : BoxE w (q + 1) kb p2 l2 c2 db bb
  c : BoxE w (q + 1 + 1) kc p3 l3 c3 dc bc
  w : Below W.heap.size W w
theorem T3.below {W w v : World} {q : Nat} {ka kb kc : ByteArray} {p1 p2 p3 : Option Addr} {l1 c1 l2 c2 l3 c3 : Nat} {da db dc ba bb bc : Int} (h : T3 W w q ka kb kc p1 p2 p3 l1 c1 l2 c2 l3 c3 da db dc ba bb bc) (hb : Below w.heap.size w v) : T3 W v q ka kb kc p1 p2 p3 l1 c1 l2 c2 l3 c3 da db dc ba bb bc :=
  ⟨h.a.below hb, h.b.below hb, h.c.below hb, tr h.w hb⟩
theorem T3.all {W w : World} {q : Nat} {ka kb kc : ByteArray} {p1 p2 p3 : Option Addr} {l1 c1 l2 c2 l3 c3 : Nat} {da db dc ba bb bc : Int} (h : T3 W w q ka kb kc p1 p2 p3 l1 c1 l2 c2 l3 c3 da db dc ba bb bc) :
    w.cell? ⟨q, 0, none⟩ = some (.string ka) ∧ w.cell? ⟨q, 1, none⟩ = some (.slice p1 l1 c1) ∧ w.cell? ⟨q, 2, none⟩ = some (.int .u64 da) ∧ w.cell? ⟨q, 3, none⟩ = some (.int .u64 ba) ∧
    w.cell? ⟨q + 1, 0, none⟩ = some (.string kb) ∧ w.cell? ⟨q + 1, 1, none⟩ = some (.slice p2 l2 c2) ∧ w.cell? ⟨q + 1, 2, none⟩ = some (.int .u64 db) ∧ w.cell? ⟨q + 1, 3, none⟩ = some (.int .u64 bb) ∧
    w.cell? ⟨q + 1 + 1, 0, none⟩ = some (.string kc) ∧ w.cell? ⟨q + 1 + 1, 1, none⟩ = some (.slice p3 l3 c3) ∧ w.cell? ⟨q + 1 + 1, 2, none⟩ = some (.int .u64 dc) ∧ w.cell? ⟨q + 1 + 1, 3, none⟩ = some (.int .u64 bc) ∧ q + 1 + 1 < w.heap.size := by
  obtain ⟨a0, a1, a2, a3, -⟩ := BoxE.all h.a
  obtain ⟨b0, b1, b2, b3, -⟩ := BoxE.all h.b
  obtain ⟨d0, d1, d2, d3, -⟩ := BoxE.all h.c
  exact ⟨a0, a1, a2, a3, b0, b1, b2, b3, d0, d1, d2, d3, h.c.lt⟩
theorem bef_no {x y p q : Int} (h : befB x y p q = true) : befB y x q p = false := by
  unfold befB at *
  split at h
  · next e => subst e; rw [if_pos rfl]; simp at *; omega
  · next e => rw [if_neg (Ne.symm e)]; simp at *; omega
theorem bef_self (x p : Int) : befB x x p p = false := by unfold befB; rw [if_pos rfl]; simp
theorem bef_all {x y p q : Int} (h1 : befB x y p q = false) (h2 : befB y x q p = false) : p = q := by
  unfold befB at *
  by_cases e : x = y
  · subst e; rw [if_pos rfl] at h1 h2; simp at h1 h2; omega
  · rw [if_neg e] at h1; rw [if_neg (Ne.symm e)] at h2; simp at h1 h2; omega
theorem bef_tr {x y z p q r : Int} (h1 : befB x y p q = true) (h2 : befB y z q r = true) : befB x z p r = true := by
  unfold befB at *
  split at h1
  · next e =>
    subst e
    split at h2
    · next e2 => rw [if_pos e2]; simp at *; omega
    · next e2 => rw [if_neg e2]; exact h2
  · next e =>
    split at h2
    · next e2 => subst e2; rw [if_neg e]; exact h1
    · next e2 =>
      simp at h1 h2
      rw [if_neg (by omega)]
      simp; omega
theorem line_len (x : En) (h : x.ok) : x.line.length ≤ 20 + 1 + 20 + 1 + (2 * x.k.size + 1) + 1 + (2 * x.zs.length + 1) := by
  have h1 := dec_size x.b.toNat (by have := h.b1; omega)
  have h1' : (Lib.decDigits x.b.toNat).length ≤ 20 := by
    have : (Num.dec x.b.toNat).size = (Lib.decDigits x.b.toNat).length := by show (Lib.decDigits x.b.toNat).toArray.size = _; simp
    omega
  have h2 : (Num.txt x.d).data.toList.length ≤ 20 := by
    unfold Num.txt
    split
    · decide
    · have h3 := dec_size x.d.toNat (by have := h.d1; omega)
      have : (Num.dec x.d.toNat).size = (Num.dec x.d.toNat).data.toList.length := (Array.length_toList).symm
      rw [← this]; exact h3
  have h3 : (hexB (nums x.k)).length ≤ 2 * x.k.size + 1 := by
    have := hexT_length (nums x.k)
    rw [nums_length] at this
    unfold hexB toB; rw [List.length_map]; exact this
  have h4 : (hexB x.zs).length ≤ 2 * x.zs.length + 1 := by
    have := hexT_length x.zs
    unfold hexB toB; rw [List.length_map]; exact this
  show (rowB x.k x.zs x.d x.b).length ≤ _
  unfold rowB
  simp only [List.length_append, List.length_cons]
  omega
end Go.Proofs.YtlpepmhpnmnpkaaDoor.Ent
