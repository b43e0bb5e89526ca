/-
  Second chance (layer 31): equal.
-/
import Derived.Test.YteppcjolgpdenaaSeqK
set_option linter.unusedVariables false
set_option linter.unusedSimpArgs false
namespace Go.Proofs.Yteppcjolgpdenaa.Seq
open Go Go.RowKit Kit Go.Maps
theorem keys_full (l : List Pl) : (keysOf l).length = full l := by
  unfold keysOf full
  rw [List.length_map, List.countP_eq_length_filter]
theorem has_at (l : List Pl) (k : Int) : ((find l k).isSome = true ∧ ∃ i : Nat, atL l k = (i : Int)) ∨ ((find l k).isSome = false ∧ atL l k = -1) := by
  unfold atL
  cases find l k with
  | some i => exact .inl ⟨rfl, i, rfl⟩
  | none => exact .inr ⟨rfl, rfl⟩
theorem Below.of_eq {B : Nat} {a b : World} (h : a = b) : Below B a b := by subst h; exact Below.refl _ _
/-- a contract at every later world -/
def AtW (W : World) (f : FuncId) (args : Array Value) (v : Value) : Prop := ∀ w, Below W.heap.size W w → Calls Try.prog f args w fun e w' => e = .returned v ∧ Below w.heap.size w w'
theorem box2 {w : World} {g : Nat} {t : TypeId} {x y : Value} (h : w.heap[g]? = some (.cells #[x, y] t (0, 0))) : w.cell? ⟨g, 0, none⟩ = some x ∧ w.cell? ⟨g, 1, none⟩ = some y := by
  constructor <;> simp [World.cell?, h]
set_option maxHeartbeats 4000000 in
set_option maxRecDepth 100000 in
theorem equal_any {W : World} {c lo hi : Nat} {l : List Pl} {h : Nat} (H0 : Sc W c lo hi l h) {q cap : Nat} (R0 : Rw W q l) {k : Int} (k0 : 0 ≤ k) (k1 : k < 4294967296) :
    Calls Try.prog 11 #[.pointer (some ⟨c, 0, none⟩), .agg #[.slice (some ⟨q, 0, none⟩) l.length cap, .int .i64 (h : Int)], .int .u32 k] W fun e w' => e = .returned (.bool true) ∧ Below W.heap.size W w' := by
  have H := Lib.hid H0
  have R := Lib.hid R0
  have hm := H0.h2
  have hkl := keys_len l
  have hml := marks_len l
  have HKF := Lib.hid (keys_full l)
  have hwf := wf32 k0 k1
  clear H0 R0
  have a1 := Lib.hid (show AtW W 25 #[.pointer (some ⟨c, 0, none⟩)] (.int .i64 (h : Int)) from fun w hw => (H.out.below hw).handR.mono fun e w' h => ⟨h.1, Below.of_eq h.2⟩)
  have a2 := Lib.hid (show AtW W 14 #[.pointer (some ⟨c, 0, none⟩)] (.int .i64 ((keysOf l).length : Int)) from fun w hw => by
    rw [HKF.out]
    exact (H.out.below hw).lenR.mono fun e w' h => ⟨h.1, Below.of_eq h.2⟩)
  have a3 := Lib.hid (show AtW W 26 #[.pointer (some ⟨c, 0, none⟩)] (.int .i64 (l.length : Int)) from fun w hw => (H.out.below hw).sizeR.mono fun e w' h => ⟨h.1, Below.of_eq h.2⟩)
  have a4 := Lib.hid (show AtW W 15 #[.pointer (some ⟨c, 0, none⟩), .int .u32 k] (.bool (find l k).isSome) from fun w hw => ((H.out.below hw).has k hwf).mono fun e w' h => ⟨h.1, Below.of_eq h.2⟩)
  have a5 := Lib.hid (show AtW W 27 #[.agg #[.slice (some ⟨q, 0, none⟩) l.length cap, .int .i64 (h : Int)], .int .u32 k] (.int .i64 (atL l k)) from fun w hw => rat_any (R.out.of (hw.block q R.out.lt)) hm _ k)
  have RR := Lib.hid (fun w hw => rring_any (W := w) (cap := cap) (R.out.of ((show Below W.heap.size W w from hw).block q R.out.lt)) hm (h : Int))
  have HA := has_at l k
  generalize (find l k).isSome = bb at *
  generalize atL l k = x at *
  have hkl' : (keysOf l).length ≤ 1024 := by omega
  have hml' : (marksOf l).length ≤ 1024 := by omega
  have HSA := Lib.hid (fun (w : World) (v1 v2 : Value) h1 h2 => same_any (w := w) (v1 := v1) (v2 := v2) (l := keysOf l) h1 h2 hkl')
  have HMA := Lib.hid (fun (w : World) (v1 v2 : Value) h1 h2 => marks_any (w := w) (v1 := v1) (v2 := v2) (l := marksOf l) h1 h2 hml')
  have HRI := Lib.hid (fun w hw => ring_any (W := w) (H.out.below (show Below W.heap.size W w from hw)))
  generalize keysOf l = ks at *
  generalize marksOf l = ms at *
  clear hkl hml HKF hkl' hml'
  generalize l.length = n at *
  go_enter Try.func11, Try.ntmps11
  go_wp2_with fail
  refine (HRI.out _ (by go_grown)).mono ?_
  rintro e w1 ⟨v1, v2, rfl, K1, M1, b1⟩
  have B1 := Lib.hid ((by go_grown : Below W.heap.size W _).trans (b1.mono (by simp)))
  have X1 : w1.heap[W.heap.size]? = some (.cells #[.slice (some ⟨q, 0, none⟩) n cap, .int .i64 (h : Int)] 30 (0, 0)) := (b1.block _ (by simp)).trans (MapKept.heap_alloc W _).1
  have RK1 := own_rd K1
  have RM1 := own_rd M1
  clear b1 K1 M1
  obtain ⟨y0, y1⟩ := box2 X1
  go_wp2_with fail
  refine (RR.out _ B1.out).mono ?_
  rintro e w2 ⟨v3, v4, rfl, K2, M2, b2⟩
  have X2 := (b2.block _ (Array.getElem?_eq_some_iff.1 X1).1).trans X1
  have RK2 := own_rd K2
  have HX2 := Lib.hid X2
  have HRK1 := Lib.hid (RK1.below b2)
  have HRM1 := Lib.hid (RM1.below b2)
  have HRK2 := Lib.hid RK2
  have HRM2 := Lib.hid (own_rd M2)
  have B2 := Lib.hid (tr B1.out b2)
  obtain ⟨o3, c3, rfl, -⟩ := RK2
  clear b2 X1 X2 RK1 RM1 K2 M2
  have HS := Lib.hid (show ∀ w', Below w2.heap.size w2 w' → (w'.cell? ⟨W.heap.size, 0, none⟩ = some (.slice (some ⟨q, 0, none⟩) n cap) ∧ w'.cell? ⟨W.heap.size, 1, none⟩ = some (.int .i64 (h : Int)) ∧ Below w2.heap.size w2 w') from fun w' hb => by
    obtain ⟨x0, x1⟩ := box2 ((hb.block _ (Array.getElem?_eq_some_iff.1 HX2.out).1).trans HX2.out)
    exact ⟨x0, x1, hb⟩)
  clear y0 y1
  obtain ⟨y0, y1, -⟩ := HS.out _ (Below.refl _ _)
  clear HRI RR
  rcases HA with ⟨rfl, i, rfl⟩ | ⟨rfl, rfl⟩
  all_goals
    try have hi0 : (0 : Int) ≤ (i : Int) := by omega
    go_wp2_with fail
    go_region_held3 (fun w' => w'.cell? ⟨W.heap.size, 0, none⟩ = some (.slice (some ⟨q, 0, none⟩) n cap) ∧ w'.cell? ⟨W.heap.size, 1, none⟩ = some (.int .i64 (h : Int)) ∧ Below w2.heap.size w2 w')
      (first
        | (exact HS.out _ (Below.drew (Below.refl _ _)))
        | assumption
        | (exact HS.out _ (tr (by assumption : _ ∧ _ ∧ Below w2.heap.size w2 _).2.2 o1))
        | fail)
      (first
        | (go_at_call 23; refine (HSA.out _ _ _ (HRK1.out.below (by assumption : _ ∧ _ ∧ Below w2.heap.size w2 _).2.2) (HRK2.out.below (by assumption : _ ∧ _ ∧ Below w2.heap.size w2 _).2.2)).mono ?_; rintro e w' ⟨rfl, o1⟩)
        | (go_at_call 24; refine (HMA.out _ _ _ (HRM1.out.below (by assumption : _ ∧ _ ∧ Below w2.heap.size w2 _).2.2) (HRM2.out.below (by assumption : _ ∧ _ ∧ Below w2.heap.size w2 _).2.2)).mono ?_; rintro e w' ⟨rfl, o1⟩)
        | (go_at_call 25; refine (a1.out _ (tr B2.out (by assumption : _ ∧ _ ∧ Below w2.heap.size w2 _).2.2)).mono ?_; rintro e w' ⟨rfl, o1⟩)
        | (go_at_call 14; refine (a2.out _ (tr B2.out (by assumption : _ ∧ _ ∧ Below w2.heap.size w2 _).2.2)).mono ?_; rintro e w' ⟨rfl, o1⟩)
        | (go_at_call 26; refine (a3.out _ (tr B2.out (by assumption : _ ∧ _ ∧ Below w2.heap.size w2 _).2.2)).mono ?_; rintro e w' ⟨rfl, o1⟩)
        | (go_at_call 15; refine (a4.out _ (tr B2.out (by assumption : _ ∧ _ ∧ Below w2.heap.size w2 _).2.2)).mono ?_; rintro e w' ⟨rfl, o1⟩)
        | (go_at_call 27; refine (a5.out _ (tr B2.out (by assumption : _ ∧ _ ∧ Below w2.heap.size w2 _).2.2)).mono ?_; rintro e w' ⟨rfl, o1⟩)
        | fail)
    go_wp2_with fail
    go_ret
    exact ⟨rfl, tr B2.out (by assumption : _ ∧ _ ∧ Below w2.heap.size w2 _).2.2⟩
end Go.Proofs.Yteppcjolgpdenaa.Seq
