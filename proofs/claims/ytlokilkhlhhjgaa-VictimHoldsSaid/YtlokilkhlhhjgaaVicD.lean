/-
  Victims (layer 18): all entries of a question.
-/
import Derived.Test.YtlokilkhlhhjgaaVicE
set_option linter.unusedVariables false
set_option linter.unusedSimpArgs false
namespace Go.Proofs.Ytlokilkhlhhjgaa.Vic
open Go Go.RowKit Kit
/-- a question -/
abbrev qv (p1 : Option Addr) (m1 c1 : Nat) (p2 : Option Addr) (m2 c2 : Nat) (k n b : Int) : Value := .agg #[.slice p1 m1 c1, .slice p2 m2 c2, .int .u32 k, .int .i64 n, .int .i64 b]
theorem Ow.lift {w : World} {B C : Nat} {v : Value} {l : List Wg} (h : Ow w B v l) (hb : C ≤ B) : Ow w C v l := by
  obtain ⟨h0, ⟨hv, hn⟩ | ⟨g, cap, cur, hv, hb', hg, hr⟩⟩ := h
  · exact ⟨h0, .inl ⟨hv, hn⟩⟩
  · exact ⟨h0, .inr ⟨g, cap, cur, hv, Nat.le_trans hb hb', hg, hr⟩⟩
theorem rd_ow {w : World} {B : Nat} {p : Option Addr} {n k : Nat} {l : List Wg} (h : Ow w B (.slice p n k) l) : Rd w p l := by
  obtain ⟨hxl, ⟨hv, hn⟩ | ⟨g, cap, cur, hv, hb, hg, hc, hm, hs, ht⟩⟩ := h
  · intro i x hi
    rw [List.length_eq_zero_iff.1 hn] at hi
    simp at hi
  · cases hv
    intro i x hi
    have hlt : i < l.length := (List.getElem?_eq_some_iff.1 hi).1
    obtain ⟨e1, e2⟩ := cellsW_at hi
    rw [← ht] at e1 e2
    have f1 : cur[i * 2]? = some (.int .u32 x.1) := by
      have := e1; rw [List.getElem?_take] at this; simpa [show i * 2 < l.length * 2 from by omega] using this
    have f2 : cur[i * 2 + 1]? = some (.int .i64 x.2) := by
      have := e2; rw [List.getElem?_take] at this; simpa [show i * 2 + 1 < l.length * 2 from by omega] using this
    refine ⟨⟨g, 0, none⟩, rfl, (Array.getElem?_eq_some_iff.1 hg).1, ?_, ?_⟩
    · have : (⟨g, 0, none⟩ : Addr).add (i * 2) = ⟨g, i * 2, none⟩ := by unfold Addr.add; split <;> simp_all
      rw [this]; simp [World.cell?, hg, f1]
    · have : (⟨g, 0, none⟩ : Addr).add (i * 2 + 1) = ⟨g, i * 2 + 1, none⟩ := by unfold Addr.add; split <;> simp_all
      rw [this]; simp [World.cell?, hg, f2]
set_option maxRecDepth 100000 in
theorem all_any {W : World} {m1 c1 m2 c2 : Nat} {p1 p2 : Option Addr} {l1 l2 : List Wg} {k n b : Int} (h1 : l1.length = m1) (h2 : l2.length = m2) (r1 : Rd W p1 l1) (r2 : Rd W p2 l2) (hb1 : m1 ≤ 4000000) (hb2 : m2 ≤ 4000000) :
    Calls Try.prog 31 #[qv p1 m1 c1 p2 m2 c2 k n b] W fun e w' => ∃ v, e = .returned v ∧ Ow w' W.heap.size v (l1 ++ l2) ∧ Below W.heap.size W w' := by
  go_enter Try.func31, Try.ntmps31
  go_wp2_with fail
  have bA : ∀ t1 t2, Below W.heap.size W ((W.alloc (.cells #[.slice p1 m1 c1, .slice p2 m2 c2, .int .u32 k, .int .i64 n, .int .i64 b] t1)).alloc (.cells #[.slice p1 m1 c1, .slice p2 m2 c2] t2)) := fun _ _ => by go_grown
  have hA : ∀ t1 t2, ((W.alloc (.cells #[.slice p1 m1 c1, .slice p2 m2 c2, .int .u32 k, .int .i64 n, .int .i64 b] t1)).alloc (.cells #[.slice p1 m1 c1, .slice p2 m2 c2] t2)).heap[W.heap.size + 1]? = some (.cells #[.slice p1 m1 c1, .slice p2 m2 c2] t2 (0, 0)) := fun t1 t2 => by
    have := (MapKept.heap_alloc (W.alloc (.cells #[.slice p1 m1 c1, .slice p2 m2 c2, .int .u32 k, .int .i64 n, .int .i64 b] t1)) (.cells #[.slice p1 m1 c1, .slice p2 m2 c2] t2)).1
    simpa using this
  refine (concat_any (hA _ _) h1 h2 (r1.below (bA _ _)) (r2.below (bA _ _)) hb1 hb2).mono ?_
  rintro e w1 ⟨x1, rfl, o1, b1⟩
  have hs := (bA 0 0).size
  simp only [World.size_alloc] at hs
  go_wp2_with fail
  go_ret
  exact ⟨x1, rfl, o1.lift (by simp only [World.size_alloc]; omega), tr (bA _ _) b1⟩
end Go.Proofs.Ytlokilkhlhhjgaa.Vic
