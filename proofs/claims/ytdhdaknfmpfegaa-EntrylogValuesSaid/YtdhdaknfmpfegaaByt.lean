/-
  Arguments that are structs with bytes; bytes of a block as a string.
-/
import Derived.Test.YtdhdaknfmpfegaaArg
import Derived.ChangeSlices
import Derived.Shelf.Bytes.SlEqualAll
set_option linter.unusedVariables false
set_option linter.unusedSimpArgs false
namespace Go.Proofs.Ytdhdaknfmpfegaa.Ev
open Go Go.RowKit
section
variable {H : Type} {enc : TypeId × Value → H} {P : Program} {w : World} {base : Nat} {sp : Nat → Bool} {held : Bool}
/-- how bytes lie, and that they are some -/
def BytesOf (w : World) (a : Option Addr) (l : Nat) (zs : List Int) : Prop := zs.length = l ∧ (∀ n ∈ zs, 0 ≤ n ∧ n < 256) ∧ Lib.BytesIn w a l zs ∧ l ≤ maxLen
theorem cell_bytes {fuel : Nat} {t e : TypeId} {cs : Array Value} {o : Nat} {x : DataW H × List MemPlace} (ht : P.underlying t = some (.slice e)) (he : P.underlying e = some (.int .u8)) (he1 : P.cellsOf e = 1) (hc : P.cellsOf t = 1) (h : DataW.trod enc P w base sp held fuel t ((cs.toList.drop o).take (P.cellsOf t)) = some x) :
    ∃ (a : Option Addr) (l c : Nat) (zs : List Int), cs[o]? = some (.slice a l c) ∧ BytesOf w a l zs := by
  rw [hc] at h
  rcases ChangeShapes.open_ints ht he he1 h with ⟨h1, -⟩ | ⟨a, l, c, zs, h1, -, hlc, hcm, hzl, -, hcell, hwf⟩
  · exact ⟨none, 0, 0, [], one_cell h1, rfl, by simp, Lib.BytesIn.nil _ _ _, Nat.zero_le _⟩
  · have hl : l ≤ zs.length := by rw [hzl]; split <;> omega
    refine ⟨some a, l, c, zs.take l, one_cell h1, by simp [hl], fun n hn => ?_, Lib.BytesIn.of_cells fun i hi => ?_, by omega⟩
    · have := wf_u8 (hwf n (List.mem_of_mem_take hn)); omega
    · rw [hcell i (by omega)]
      simp [List.getD_eq_getElem?_getD, List.getElem?_take, hi]
theorem BytesOf.below {a : Option Addr} {l : Nat} {zs : List Int} {w w' : World} (h : BytesOf w a l zs) (b : Below w.heap.size w w') : BytesOf w' a l zs := by
  obtain ⟨h1, h2, h3, h4⟩ := h
  refine ⟨h1, h2, fun hl => ?_, h4⟩
  obtain ⟨p, o, rfl, hc⟩ := h3 hl
  refine ⟨p, o, rfl, fun i hi => ?_⟩
  have hp : p < w.heap.size := by
    have := hc i hi
    unfold World.cell? at this
    rcases Nat.lt_or_ge p w.heap.size with h | h
    · exact h
    · rw [Array.getElem?_eq_none h] at this; simp at this
  rw [← hc i hi]
  unfold World.cell?
  rw [b.block p hp]
/-- the string of bytes -/
theorem BytesOf.str {a : Option Addr} {l : Nat} {zs : List Int} {w : World} (h : BytesOf w a l zs) (c : Nat) {src e dst : TypeId} (hs : P.underlying src = some (.slice e)) (he : P.underlying e = some (.int .u8)) (hd : P.underlying dst = some .string) :
    (convert src dst (.slice a l c)).run P w = .ok (.string (strOfNums zs)) w := h.2.2.1.convert h.1 c src e dst hs he hd
end
end Go.Proofs.Ytdhdaknfmpfegaa.Ev
