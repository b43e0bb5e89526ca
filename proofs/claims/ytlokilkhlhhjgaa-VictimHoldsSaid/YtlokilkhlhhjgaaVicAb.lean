/-
  Victims (layer 18): lists of slots that a law is given.
-/
import Derived.Test.YtlokilkhlhhjgaaVicAa
set_option linter.unusedVariables false
set_option linter.unusedSimpArgs false
namespace Go.Proofs.Ytlokilkhlhhjgaa.Vic
open Go Go.RowKit Kit Go.Maps
theorem rows_ru {w : World} {a : Option Addr} {len cap : Nat} (h : (a = none ∧ len = 0) ∨ ∃ x, a = some x ∧ len ≤ cap ∧ cap ≤ maxLen ∧ ∀ i, i < len → ∃ z : Int, w.cell? (x.add i) = some (.int .u32 z) ∧ (Lit.int .u32 z).wf = true) :
    ∃ l : List Int, l.length = len ∧ Ru w a l := by
  rcases h with ⟨rfl, rfl⟩ | ⟨x, rfl, -, -, h⟩
  · exact ⟨[], rfl, fun i p hp => by simp at hp⟩
  · have : ∀ n, n ≤ len → ∃ l : List Int, l.length = n ∧ Ru w (some x) l := by
      intro n
      induction n with
      | zero => exact fun _ => ⟨[], rfl, fun i p hp => by simp at hp⟩
      | succ n ih =>
        intro hn
        obtain ⟨l, h1, h2⟩ := ih (by omega)
        obtain ⟨z, e0, w0⟩ := h n (by omega)
        have hb : x.block < w.heap.size := by
          have hs : ∃ o, w.heap[x.block]? = some o := by
            unfold World.cell? at e0
            rw [add_block] at e0
            cases ho : w.heap[x.block]? with
            | none => rw [ho] at e0; simp at e0
            | some o => exact ⟨o, rfl⟩
          obtain ⟨o, ho⟩ := hs
          exact (Array.getElem?_eq_some_iff.1 ho).1
        refine ⟨l ++ [z], by simp [h1], fun i p hp => ?_⟩
        rcases Nat.lt_or_ge i l.length with hi | hi
        · rw [List.getElem?_append_left hi] at hp
          exact h2 i p hp
        · rw [List.getElem?_append_right hi] at hp
          match hq : i - l.length, hp with
          | 0, hp =>
            simp at hp
            subst hp
            obtain rfl : i = n := by omega
            exact ⟨x, rfl, hb, e0⟩
    exact this len (Nat.le_refl _)
end Go.Proofs.Ytlokilkhlhhjgaa.Vic
