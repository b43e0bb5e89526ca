/-
  Small laws for the walk over the law WordSets (layer 1).
-/
import Derived.Test.YtgghlecpdgjnlaaWordU
import Derived.RangeFuncNested
import Derived.BigQuiet
import Derived.Deep.QuietTactic
namespace Go.Proofs.Ytgghlecpdgjnlaa.Word
open Go.RowKit Kit Go.Shelf

theorem count_len : ∀ s : Nat, s < 256 → (Lib.onesCount s : Int) = ((lst s 8).length : Int) := by decide +kernel
theorem first_get (s : Nat) (hs : s < 256) (h : 0 < (lst s 8).length) : (lst s 8)[0]? = some (Lib.trailingZeros8 s : Int) := by
  have h0 : s ≠ 0 := by rintro rfl; rw [lst_zero] at h; simp at h
  have := lst_cons s hs h0
  simp [this]
theorem first_zero : (Lib.trailingZeros8 0 : Int) = 8 := by decide +kernel
theorem heap_if (w : World) (o : Obj) (k : Nat) : (w.alloc o).heap[k]? = if k = w.heap.size then some o else w.heap[k]? := by
  by_cases h : k = w.heap.size
  · rw [if_pos h]; subst h; exact (MapKept.heap_alloc w o).1
  · rw [if_neg h]
    rcases Nat.lt_or_ge k w.heap.size with h1 | h1
    · exact Below.heap_alloc w o k h1
    · rw [Array.getElem?_eq_none (by rw [World.size_alloc]; omega), Array.getElem?_eq_none h1]
/-- the result is stored, and the block of deferred calls is closed -/
theorem finish {w W w2 : World} {R D : Nat} {t : TypeId} {v0 : Value} (v : Value) (hRD : D ≠ R) (hW : Below w.heap.size w W) (b2 : Below W.heap.size W w2) (hRs : w.heap.size ≤ R) (hR : Boxed W R t v0) (hK : W.heap[D]? = some (.deferred (some []))) (hD : w.heap.size ≤ D) :
    (w2.setCell ⟨R, 0, none⟩ v).heap[D]? = some (.deferred (some [])) ∧ ((w2.setCell ⟨R, 0, none⟩ v).putObj D (.deferred none)).cell? ⟨R, 0, none⟩ = some v ∧ Below w.heap.size w ((w2.setCell ⟨R, 0, none⟩ v).putObj D (.deferred none)) := by
  have hK2 := (Below.heap_setCell w2 ⟨R, 0, none⟩ v D hRD).trans ((b2.block D (Array.getElem?_eq_some_iff.1 hK).1).trans hK)
  have hR2 : Boxed w2 R t v0 := (b2.block R hR.lt).trans hR
  have hc := (hR2.set v).cell
  refine ⟨hK2, ?_, ?_⟩
  · rw [← hc]
    simp [World.cell?, World.putObj, hRD]
  · exact ((tr hW b2).setCell (p := ⟨R, 0, none⟩) hRs _).trans (belowK_b (w := w) (Nat.le_refl _) _ D _ _ hD hK2 rfl rfl)
/-- the result is stored, and the blocks of deferred calls of two ranges are closed -/
theorem finish2 {w W w2 : World} {R D D2 : Nat} {t : TypeId} {v0 : Value} (v : Value) (hRD : D ≠ R) (hRD2 : D2 ≠ R) (hDD : D ≠ D2) (hW : Below w.heap.size w W) (b2 : Below W.heap.size W w2) (hRs : w.heap.size ≤ R) (hR : Boxed W R t v0) (hK : W.heap[D]? = some (.deferred (some []))) (hK2 : W.heap[D2]? = some (.deferred (some []))) (hD : w.heap.size ≤ D) (hD2 : w.heap.size ≤ D2) :
    (w2.setCell ⟨R, 0, none⟩ v).heap[D2]? = some (.deferred (some [])) ∧ ((w2.setCell ⟨R, 0, none⟩ v).putObj D2 (.deferred none)).heap[D]? = some (.deferred (some [])) ∧
    (((w2.setCell ⟨R, 0, none⟩ v).putObj D2 (.deferred none)).putObj D (.deferred none)).cell? ⟨R, 0, none⟩ = some v ∧ Below w.heap.size w (((w2.setCell ⟨R, 0, none⟩ v).putObj D2 (.deferred none)).putObj D (.deferred none)) := by
  obtain ⟨k1, k2, k3⟩ := finish v hRD2 hW b2 hRs hR hK2 hD2
  have hK3 := (Below.heap_setCell w2 ⟨R, 0, none⟩ v D hRD).trans ((b2.block D (Array.getElem?_eq_some_iff.1 hK).1).trans hK)
  have hK4 : ((w2.setCell ⟨R, 0, none⟩ v).putObj D2 (.deferred none)).heap[D]? = some (.deferred (some [])) := (World.putObj_heap_other hDD).trans hK3
  refine ⟨k1, hK4, ?_, ?_⟩
  · rw [← k2]
    simp [World.cell?, World.putObj, hRD]
  · exact k3.trans (belowK_b (w := w) (Nat.le_refl _) _ D _ _ hD hK4 rfl rfl)
theorem ownFrom_imp {β : Type} {B : Nat} {q : β → Prop} {I : β → World → Prop} (h : OwnFrom B I) : OwnFrom B (fun s W => q s → I s W) := fun s A C row hs hg hr hq => h s A C row (hs hq) hg hr
/-- what lies in the blocks of the law between two ranges -/
def ItV (s T tb g' cap : Nat) (n : Int) (L : List Int) (st : Nat) (turn : Int) (V : World) : Prop :=
  V.cell? ⟨s, 0, none⟩ = some (.int .i64 n) ∧ Boxed V (s + 1) 4 (.bool false) ∧ V.cell? ⟨T, 0, none⟩ = some (.slice (some ⟨g', 0, none⟩) L.length cap) ∧ V.cell? ⟨T + 1, 0, none⟩ = some (.int .u8 st) ∧
  Boxed V tb 3 (.int .i64 turn) ∧ (∀ j (hj : j < L.length), V.cell? ⟨g', j, none⟩ = some (.int .i64 L[j])) ∧ s + 1 < V.heap.size ∧ T + 1 < V.heap.size ∧ g' < V.heap.size
theorem ItV.below {s T tb g' cap : Nat} {n : Int} {L : List Int} {st : Nat} {turn : Int} {V W : World} (h : ItV s T tb g' cap n L st turn V) (hb : Below V.heap.size V W) : ItV s T tb g' cap n L st turn W := by
  obtain ⟨h1, h2, h3, h4, h6, h7, h8, h9, h10⟩ := h
  have hs := hb.size
  refine ⟨(hb.cell (p := ⟨s, 0, none⟩) (by show s < _; omega)).trans h1, (hb.block _ h2.lt).trans h2, (hb.cell (p := ⟨T, 0, none⟩) (by show T < _; omega)).trans h3, (hb.cell (p := ⟨T + 1, 0, none⟩) (by show T + 1 < _; omega)).trans h4, (hb.block _ h6.lt).trans h6, fun j hj => (hb.cell (p := ⟨g', j, none⟩) h10).trans (h7 j hj), by omega, by omega, by omega⟩
theorem ItV.next {s T tb g' cap : Nat} {n : Int} {L : List Int} {st : Nat} {turn : Int} {V : World} (h : ItV s T tb g' cap n L st turn V) (turn' : Int) : ItV s T V.heap.size g' cap n L st turn' (V.alloc (.cells #[.int .i64 turn'] 3)) := by
  have hb : Below V.heap.size V (V.alloc (.cells #[.int .i64 turn'] 3)) := by go_grown
  obtain ⟨h1, h2, h3, h4, _, h7, h8, h9, h10⟩ := h.below hb
  exact ⟨h1, h2, h3, h4, Boxed.new _ _ _, h7, h8, h9, h10⟩
/-- a round that ends the law has seen this -/
def Off3 (L : List Int) (pre : List Int) : Prop := ∃ q x, pre = q ++ [x] ∧ L[q.length]? ≠ some x
theorem off3_never (L pre : List Int) (hp : pre <+: L) : ¬ Off3 L pre := by
  rintro ⟨q, x, rfl, h⟩
  obtain ⟨r, rfl⟩ := hp
  exact h (by simp)
end Go.Proofs.Ytgghlecpdgjnlaa.Word
