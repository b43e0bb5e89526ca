/-
  Arguments that are slices of numbers.
-/
import Derived.Test.YtjkjcmhlbimeaaaDoorSl
set_option linter.unusedVariables false
set_option linter.unusedSimpArgs false
namespace Go.Proofs.YtjkjcmhlbimeaaaDoor.Ev
open Go Go.RowKit
section
variable {H : Type} {enc : TypeId × Value → H} {P : Program} {w : World} {base : Nat} {sp : Nat → Bool} {held : Bool}
/-- an element of a slice of numbers that is read -/
theorem int_of {e : TypeId} {q : IntKind} {cs : Array Value} {d : DataW H} {ps : List MemPlace} (he : P.underlying e = some (.int q)) (hc : P.cellsOf e = 1) (h : DataW.Trod enc P w base sp held e (.agg cs) d ps) (hs : cs.size = 1) : ∃ n, cs[0]? = some (.int q n) ∧ (Lit.int q n).wf = true := by
  obtain ⟨fuel, h⟩ := h
  have hl : (cs.toList.drop 0).take (P.cellsOf e) = cs.toList := by
    rw [hc, List.drop_zero]
    exact List.take_of_length_le (by simp [hs])
  exact cell_int (o := 0) he hc (by rw [hl]; simpa [Value.cells] using h)
end
end Go.Proofs.YtjkjcmhlbimeaaaDoor.Ev
