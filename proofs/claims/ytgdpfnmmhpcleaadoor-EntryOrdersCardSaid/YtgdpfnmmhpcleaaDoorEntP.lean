/-
  Walks over package entry (layer 4): the law EntryOrders.
-/
import Derived.Test.YtgdpfnmmhpcleaaDoorEntO
set_option linter.unusedVariables false
set_option linter.unusedSimpArgs false
namespace Go.Proofs.YtgdpfnmmhpcleaaDoor.Ent
open Go.RowKit Kit
theorem bel_of {w0 a : World} {q : Nat} {x0 x1 x2 x3 x4 x5 x6 x7 : Value} (h : a.cell? ⟨q, 0, none⟩ = some x0 ∧ a.cell? ⟨q, 1, none⟩ = some x1 ∧ a.cell? ⟨q, 2, none⟩ = some x2 ∧ a.cell? ⟨q, 3, none⟩ = some x3 ∧ a.cell? ⟨q + 1, 0, none⟩ = some x4 ∧ a.cell? ⟨q + 1, 1, none⟩ = some x5 ∧ a.cell? ⟨q + 1, 2, none⟩ = some x6 ∧ a.cell? ⟨q + 1, 3, none⟩ = some x7 ∧ q + 1 < a.heap.size ∧ Below w0.heap.size w0 a) : Below w0.heap.size w0 a := h.2.2.2.2.2.2.2.2.2
theorem keep8 {w0 a b : World} {q : Nat} {x0 x1 x2 x3 x4 x5 x6 x7 : Value} (k : Below a.heap.size a b) (h : a.cell? ⟨q, 0, none⟩ = some x0 ∧ a.cell? ⟨q, 1, none⟩ = some x1 ∧ a.cell? ⟨q, 2, none⟩ = some x2 ∧ a.cell? ⟨q, 3, none⟩ = some x3 ∧ a.cell? ⟨q + 1, 0, none⟩ = some x4 ∧ a.cell? ⟨q + 1, 1, none⟩ = some x5 ∧ a.cell? ⟨q + 1, 2, none⟩ = some x6 ∧ a.cell? ⟨q + 1, 3, none⟩ = some x7 ∧ q + 1 < a.heap.size ∧ Below w0.heap.size w0 a) : b.cell? ⟨q, 0, none⟩ = some x0 ∧ b.cell? ⟨q, 1, none⟩ = some x1 ∧ b.cell? ⟨q, 2, none⟩ = some x2 ∧ b.cell? ⟨q, 3, none⟩ = some x3 ∧ b.cell? ⟨q + 1, 0, none⟩ = some x4 ∧ b.cell? ⟨q + 1, 1, none⟩ = some x5 ∧ b.cell? ⟨q + 1, 2, none⟩ = some x6 ∧ b.cell? ⟨q + 1, 3, none⟩ = some x7 ∧ q + 1 < b.heap.size ∧ Below w0.heap.size w0 b := by
  obtain ⟨h0, h1, h2, h3, h4, h5, h6, h7, h8, h9⟩ := h
  obtain ⟨c, _, s⟩ := bcell k
  exact ⟨by rw [c _ _ (by omega)]; exact h0, by rw [c _ _ (by omega)]; exact h1, by rw [c _ _ (by omega)]; exact h2, by rw [c _ _ (by omega)]; exact h3, by rw [c _ _ (by omega)]; exact h4, by rw [c _ _ (by omega)]; exact h5, by rw [c _ _ (by omega)]; exact h6, by rw [c _ _ (by omega)]; exact h7, by omega, tr h9 k⟩
theorem new3 (w : World) (a b o : Obj) : (((w.alloc a).alloc b).alloc o).heap[w.heap.size + 1 + 1]? = some o := by
  have := (MapKept.heap_alloc ((w.alloc a).alloc b) o).1
  simpa using this
theorem eqB_self (k : ByteArray) (xs : List Int) (d b : Int) : eqB k k xs xs d d b b = true := by simp [eqB]
set_option maxRecDepth 100000 in
set_option maxHeartbeats 4000000 in
theorem orders_any (ka kb : ByteArray) (p1 p2 : Option Addr) (l1 c1 l2 c2 : Nat) (xs ys : List Int) (da db ba bb : Int) (w : World) (h1 : Ev.BytesOf w p1 l1 xs) (h2 : Ev.BytesOf w p2 l2 ys)
    (HKN : ∀ w1, Below w.heap.size w w1 → Calls Tryd.prog 33 #[] w1 fun e w' => e = .returned (.bool true) ∧ Below w1.heap.size w1 w') :
    Calls Tryd.prog 9 #[ent ka p1 l1 c1 da ba, ent kb p2 l2 c2 db bb] w fun e w' => e = .returned (.bool true) ∧ Below w.heap.size w w' := by
  have HK := Lib.hid HKN
  have HE := Lib.hid (fun (k2 : ByteArray) (q2 : Option Addr) (m2 d2 : Nat) (u2 v2 : Int) (zs : List Int) (w1 : World) (b : Below w.heap.size w w1) (hz : Ev.BytesOf w1 q2 m2 zs) => equal_any ka k2 p1 q2 l1 c1 m2 d2 xs zs da u2 ba v2 w1 (h1.below b) hz)
  have HR := Lib.hid (fun (w1 : World) (b : Below w.heap.size w w1) => requal_any ka kb p1 p2 l1 c1 l2 c2 xs ys da db ba bb w1 (h1.below b) (h2.below b))
  have HB := Lib.hid (fun (w1 : World) => before_any ka kb p1 p2 l1 c1 l2 c2 da db ba bb w1)
  have HS := Lib.hid (fun (w1 : World) => rbefore_any ka kb p1 p2 l1 c1 l2 c2 da db ba bb w1)
  have HC := Lib.hid (fun (hl : l1 ≤ 100000) (w1 : World) (b : Below w.heap.size w w1) => rcopy_any ka p1 l1 c1 xs da ba hl w1 (h1.below b))
  have H2 := Lib.hid (fun (w1 : World) (b : Below w.heap.size w w1) => h2.below b)
  have hself := eqB_self ka xs da ba
  clear HKN h1 h2
  go_enter Tryd.func9, Tryd.ntmps9
  go_wp2_with fail
  refine (few_two _ ka kb p1 p2 l1 c1 l2 c2 da db ba bb 49 (0, 0) _ (new3 w _ _ _)).mono ?_
  rintro e w3 ⟨rfl, b3⟩
  have s3 : w3.cell? ⟨w.heap.size, 0, none⟩ = some (.string ka) ∧ w3.cell? ⟨w.heap.size, 1, none⟩ = some (.slice p1 l1 c1) ∧ w3.cell? ⟨w.heap.size, 2, none⟩ = some (.int .u64 da) ∧ w3.cell? ⟨w.heap.size, 3, none⟩ = some (.int .u64 ba) ∧ w3.cell? ⟨w.heap.size + 1, 0, none⟩ = some (.string kb) ∧ w3.cell? ⟨w.heap.size + 1, 1, none⟩ = some (.slice p2 l2 c2) ∧ w3.cell? ⟨w.heap.size + 1, 2, none⟩ = some (.int .u64 db) ∧ w3.cell? ⟨w.heap.size + 1, 3, none⟩ = some (.int .u64 bb) ∧ w.heap.size + 1 < w3.heap.size ∧ Below w.heap.size w w3 := by
    refine keep8 b3 ?_
    refine ⟨?_, ?_, ?_, ?_, ?_, ?_, ?_, ?_, ?_, ?_⟩ <;> first | (simp [go_sem]; done) | (simp; done) | go_grown
  clear b3
  by_cases hf : (decide (ka.size ≤ 600) && decide (l1 ≤ 600) && decide (kb.size ≤ 600) && decide (l2 ≤ 600)) = true
  · rw [hf]
    have hl : l1 ≤ 100000 := by simp at hf; omega
    clear hf
    go_wp2_with fail
    go_region_held3 (fun w' => w'.cell? ⟨w.heap.size, 0, none⟩ = some (.string ka) ∧ w'.cell? ⟨w.heap.size, 1, none⟩ = some (.slice p1 l1 c1) ∧ w'.cell? ⟨w.heap.size, 2, none⟩ = some (.int .u64 da) ∧ w'.cell? ⟨w.heap.size, 3, none⟩ = some (.int .u64 ba) ∧ w'.cell? ⟨w.heap.size + 1, 0, none⟩ = some (.string kb) ∧ w'.cell? ⟨w.heap.size + 1, 1, none⟩ = some (.slice p2 l2 c2) ∧ w'.cell? ⟨w.heap.size + 1, 2, none⟩ = some (.int .u64 db) ∧ w'.cell? ⟨w.heap.size + 1, 3, none⟩ = some (.int .u64 bb) ∧ w.heap.size + 1 < w'.heap.size ∧ Below w.heap.size w w')
      (first
        | (exact keep8 o1 (by assumption))
        | (exact keep8 (Below.drew (Below.refl _ _)) s3)
        | (exact keep8 (by go_grown) s3))
      (first
        | (go_at_call 44; refine (HE.out _ _ _ _ _ _ _ _ (bel_of (by assumption)) (by first | assumption | exact H2.out _ (bel_of (by assumption)))).mono ?_; rintro e w' ⟨rfl, o1⟩)
        | (go_at_call 43; refine (HR.out _ (bel_of (by assumption))).mono ?_; rintro e w' ⟨rfl, o1⟩)
        | (go_at_call 45; refine (HC.out hl _ (bel_of (by assumption))).mono ?_; rintro e w' ⟨p', c', rfl, hcp, o1⟩)
        | (go_at_call 46; refine (HB.out _).mono ?_; rintro e w' ⟨rfl, o1⟩)
        | (go_at_call 47; refine (HS.out _).mono ?_; rintro e w' ⟨rfl, o1⟩)
        | (go_at_call 33; refine (HK.out _ (bel_of (by assumption))).mono ?_; rintro e w' ⟨rfl, o1⟩))
    go_wp2
    go_ret
    rename_i hh
    exact ⟨rfl, bel_of hh⟩
  · rw [Bool.eq_false_iff.2 hf]
    go_wp2_with fail
    refine (HK.out _ (bel_of s3)).mono ?_
    rintro e w4 ⟨rfl, b4⟩
    go_wp2_with fail
    go_ret
    exact ⟨rfl, tr (bel_of s3) b4⟩
end Go.Proofs.YtgdpfnmmhpcleaaDoor.Ent
