/-
  Ghost lists (layer 28): Keys.
-/
import Derived.Test.YtggimkfepcgaoaaGhoJ
import Derived.Test.YtggimkfepcgaoaaGhoB
import Derived.Maps.OwnIn
set_option linter.unusedVariables false
set_option linter.unusedSimpArgs false
namespace Go.Proofs.Ytggimkfepcgaoaa.Gho
open Go Go.RowKit Kit Go.Maps Lnk
attribute [local go_sem] Oper.semAt_some
theorem mk_cap32 {n : Nat} (hn : n ≤ 1000000) (v : World) : (Instr.makeSlice 39 (.int .i64 0) (.int .i64 (n : Int))).run Try.prog v = .ok (.slice (some ⟨v.heap.size, 0, none⟩) 0 n) (v.alloc (.cells (madeCells #[.int .u32 0] n) 38)) := by
  obtain ⟨i0, hi0, hz0, hz1, hz2⟩ := u_parts
  have hr := run_make (P := Try.prog) v 39 38 i0 (.int .u32 0) Try.underlying39 hi0 hz0 .i64 .i64 0 (n : Int) (Int.le_refl _) (by omega) (by rw [hz2]; omega) (by omega)
  rw [hz1] at hr
  simp only [Int.toNat_zero, Int.toNat_natCast] at hr
  simpa [Value.cells] using hr
/-- the list of keys that is made -/
structure Kst (w V0 : World) (K hi : Nat) (pre : List Int) (W : World) : Prop where
  v : ∃ v, Boxed W (w.heap.size + 1) 39 v ∧ W.ownsRow w.heap.size 38 1 v pre.length (pre.map (Value.int .u32)) ∧ ∀ g, v.ownBlock = some g → g = w.heap.size ∨ hi ≤ g
  kp : ∀ k, k < hi → k < V0.heap.size → k ≠ w.heap.size → k ≠ w.heap.size + 1 → W.heap[k]? = V0.heap[k]?
  sz : V0.heap.size ≤ W.heap.size
  bl : Below w.heap.size w W
  hh : V0.heap.size ≤ hi
  hw : hi ≤ W.heap.size
theorem Kst.own {w V0 : World} {K B : Nat} (hB : w.heap.size + 2 ≤ B) (hV : V0.heap.size ≤ B) {hi : Nat} : OwnFrom B (fun (pre : List Int) W => Kst w V0 K hi pre W) := fun s W W' row hs hg hr => by
  obtain ⟨⟨v, h1, h2, h3⟩, h4, h5, h6, h7, h8⟩ := hs
  have hk : ∀ (k : Nat) (ob : Obj), W.heap[k]? = some ob → ob.isCells = true → W'.heap[k]? = W.heap[k]? := fun k ob e1 e2 => grownBy_keeps_cells hg (fun r e => (hr r e).2) e1 e2
  refine ⟨⟨v, (hk _ _ h1 rfl).trans h1, ?_, h3⟩, fun k k1 k2 k3 k4 => ?_, Nat.le_trans h5 hg.size, h6.grown hg h6.size fun k hk' => ?_, h7, Nat.le_trans h8 hg.size⟩
  · obtain ⟨a0, ⟨hv, hn⟩ | ⟨g', cap, cur, hv, hb, hgg, hr'⟩⟩ := h2
    · exact ⟨a0, .inl ⟨hv, hn⟩⟩
    · exact ⟨a0, .inr ⟨g', cap, cur, hv, hb, (hk _ _ hgg rfl).trans hgg, hr'⟩⟩
  · rw [hg.block k (by omega) fun e => by have := (hr k e.symm).1; omega]
    exact h4 k k1 k2 k3 k4
  · have := (hr k hk').1; omega
/-- one key more -/
theorem Kst.next {w V0 W w4 : World} {K hi : Nat} {pre : List Int} {x : Int} {va : Option Addr} {vc g4 c4 n : Nat} (hn : pre.length = n) (h : Kst w V0 K hi pre W) (h2 : w.heap.size + 2 ≤ V0.heap.size)
    (hbx : W.heap[w.heap.size + 1]? = some (.cells #[.slice va n vc] 39 (0, 0))) (hvb : ∀ g, (Value.slice va n vc).ownBlock = some g → g = w.heap.size ∨ hi ≤ g)
    (hne : ∀ g, (Value.slice va n vc).ownBlock = some g → g ≠ w.heap.size + 1)
    (hown : w4.ownsRow w.heap.size 38 1 (.slice (some ⟨g4, 0, none⟩) (n + 1) c4) (n + 1) (pre.map (Value.int .u32) ++ [.int .u32 x]))
    (hgr : (W.alloc (.cells #[.int .u32 x] 38)).grownBy w4 (Value.slice va n vc).ownBlock)
    (hat : (Value.slice (some ⟨g4, 0, none⟩) (n + 1) c4).ownBlock = (Value.slice va n vc).ownBlock ∨ (Value.slice (some ⟨g4, 0, none⟩) (n + 1) c4).ownBlock = some (W.alloc (.cells #[.int .u32 x] 38)).heap.size) :
    w4.heap[w.heap.size + 1]? = some (.cells #[.slice va n vc] 39 (0, 0)) ∧
    KeepsFrom (w.heap.size + 2) W (w4.setCell ⟨w.heap.size + 1, 0, none⟩ (.slice (some ⟨g4, 0, none⟩) (n + 1) c4)) ∧
    (∀ k, k < hi → k ≠ w.heap.size → k ≠ w.heap.size + 1 → (w4.setCell ⟨w.heap.size + 1, 0, none⟩ (.slice (some ⟨g4, 0, none⟩) (n + 1) c4)).heap[k]? = W.heap[k]?) ∧
    Kst w V0 K hi (pre ++ [x]) (w4.setCell ⟨w.heap.size + 1, 0, none⟩ (.slice (some ⟨g4, 0, none⟩) (n + 1) c4)) := by
  subst hn
  have hs1 : (W.alloc (.cells #[.int .u32 x] 38)).heap.size = W.heap.size + 1 := by simp
  have hs4 := hgr.size
  have hV := h.sz
  have hVh := h.hh
  have hhi := h.hw
  have hb4 : ∀ k, k < W.heap.size → (∀ g, (Value.slice va pre.length vc).ownBlock = some g → k ≠ g) → w4.heap[k]? = W.heap[k]? := fun k hk hn => (hgr.block k (by omega) fun e => hn k e.symm rfl).trans (Below.heap_alloc W _ k hk)
  have hx4 : w4.heap[w.heap.size + 1]? = some (.cells #[.slice va pre.length vc] 39 (0, 0)) := (hb4 _ (by omega) fun g hg => (hne g hg).symm).trans hbx
  have hset : ∀ k, k ≠ w.heap.size + 1 → (w4.setCell ⟨w.heap.size + 1, 0, none⟩ (.slice (some ⟨g4, 0, none⟩) (pre.length + 1) c4)).heap[k]? = w4.heap[k]? := fun k hk => Below.heap_setCell w4 ⟨w.heap.size + 1, 0, none⟩ _ k (by show k ≠ w.heap.size + 1; exact hk)
  have hss : (w4.setCell ⟨w.heap.size + 1, 0, none⟩ (.slice (some ⟨g4, 0, none⟩) (pre.length + 1) c4)).heap.size = w4.heap.size := by simp
  have hg4 : g4 = w.heap.size ∨ hi ≤ g4 := by
    rcases hat with e | e
    · exact hvb g4 (by rw [← e]; rfl)
    · have e' : g4 = (W.alloc (.cells #[.int .u32 x] 38)).heap.size := Option.some.inj e
      right
      omega
  have hkeep : ∀ k, k < hi → k ≠ w.heap.size → k ≠ w.heap.size + 1 → (w4.setCell ⟨w.heap.size + 1, 0, none⟩ (.slice (some ⟨g4, 0, none⟩) (pre.length + 1) c4)).heap[k]? = W.heap[k]? := fun k h1 h2 h3 => by
    rw [hset k h3]
    exact hb4 k (by omega) fun g hg e => by rcases hvb g hg with h | h <;> omega
  refine ⟨hx4, ⟨by omega, fun k o hB ho hc => ?_⟩, hkeep, ⟨⟨_, by unfold Boxed; exact heap_set (j := 0) hx4 _, ?_, fun g hg => by have e' : g4 = g := Option.some.inj hg; omega⟩, fun k k1 k2 k3 k4 => (hkeep k k1 k3 k4).trans (h.kp k k1 k2 k3 k4), by omega, ?_, hVh, by omega⟩⟩
  · rw [hset k (by omega)]
    refine (hb4 k (Array.getElem?_eq_some_iff.1 ho).1 fun g hg e => ?_).trans ho
    subst e
    rcases hvb k hg with h1 | h1
    · omega
    · obtain ⟨v, e1, e2, e3⟩ := h.v
      unfold Boxed at e1
      rw [hbx] at e1
      injection e1 with e1
      injection e1 with e1 _ _
      injection e1 with e1
      injection e1 with e1 _
      subst e1
      obtain ⟨_, ⟨hv, hn⟩ | ⟨g', cap, cur, hv, hb, hgg, hr'⟩⟩ := e2
      · injection hv with hv _ _
        subst hv
        cases hg
      · injection hv with hv _ _
        subst hv
        obtain rfl : g' = k := Option.some.inj hg
        rw [ho] at hgg
        cases hgg
        cases hc
  · rw [List.length_append, List.length_singleton, List.map_append]
    have hne4 : g4 ≠ w.heap.size + 1 := by omega
    obtain ⟨a0, ⟨hv, hn⟩ | ⟨g', cap, cur, hv, hb, hgg, hr'⟩⟩ := hown
    · cases hv
    · cases hv
      exact ⟨a0, .inr ⟨g4, c4, cur, rfl, hb, (hset g4 hne4).trans hgg, hr'⟩⟩
  · refine ⟨hgr.os.trans h.bl.os, hgr.tape.trans h.bl.tape, hgr.output.trans h.bl.output, by have := h.bl.size; omega, fun k hk => ?_⟩
    rw [hset k (by omega)]
    exact (hb4 k (by omega) fun g hg e => by rcases hvb g hg with h | h <;> omega).trans (h.bl.block k hk)
end Go.Proofs.Ytggimkfepcgaoaa.Gho
