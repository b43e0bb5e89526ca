/-
  The examples of a chapter, part 3: calls that are evaluated from a heap to a heap.
-/
import Derived.Test.YtdcjmebgcojnmaaQ30knownp2
namespace Go.Proofs.Ytdcjmebgcojnmaa.Q30known
open Go Go.RowKit Go.Proofs.Ytdcjmebgcojnmaa.Ev Go.Proofs.Ytdcjmebgcojnmaa.Ev.Sh
set_option maxRecDepth 100000
def b21l : List Value := [u3 1, u3 2, u3 4]
def b21 : Blk := .cells 22 b21l
def b22 : Blk := .map [⟨u3 1, u3 0, 0⟩, ⟨u3 2, u3 1, 1⟩, ⟨u3 4, u3 2, 3⟩] 4
def b23l : List Value := [i6 0, i6 6, p 8 0, s 67 0 3 3, .map (some 68)]
def b23 : Blk := .cells 41 b23l
def b24l : List Value := [s 1836 0 0 3]
def b24 : Blk := .cells 33 b24l
def b25l : List Value := [u3 4, u3 1, u3 2]
def b25 : Blk := .cells 22 b25l
def b26l : List Value := [s 1836 0 3 3]
def b26 : Blk := .cells 33 b26l
def x3067 : Tr Blk := ⟨N (N (N L (N (V b11) L (V b12) L) (N (V b2) L D0 L) L) (N L L L (N L D0 L L)) L (N (N D0 L L L) L L L)) (N (N (N L L L (V b21)) (N (V b22) (V b23) L L) (N L L (V b6) L) (N (V b7) L (V b8) L)) (N (N D0 L L L) L L L) (N (N L L L D0) L L L) (N L (N L L (V b9) (V b4)) (N (V b10) (V b16) (V b17) D0) D1)) (N L L (N (N L D0 L L) L L L) L) (N (N (N D0 L L L) L L L) L (N (N L L L D0) D1 (N D0 L L L) L) L), N (N L (N (N (N L (N L L L D0) L L) L (N L L (N L L D0 D0) D1) L) (N L (N (N L D0 L L) L L L) L (N (N D0 L L L) L L L)) (N L (N (N L L L D0) D1 (N D0 L L L) L) L (N L L (N L L D0 L) L)) (N L (N L L (N L D0 L L) L) L (N L L L D1))) (N (N (N (N D0 D0 L L) L L L) L (N (N D0 L L L) L L L) L) (N (N (N L L L D0) (N (V b19) D0 D0 D0) D1 (N D0 L L L)) (N L (N L L D0 D0) D1 (N D0 L L L)) (N L (N L L D0 L) L L) D2) D3 D3) D4) (N D4 D4 (N D3 (N D2 D2 (N D1 (N D0 (V b19) L L) L L) L) (N (N (N L D0 D0 D0) (N D0 D0 L L) L L) (N L (N L L D0 L) L L) L (N L (N L D0 L L) L L)) (N L L (N L L (N L D0 L L) L) L)) (N (N (N L L (N D0 L L L) L) L (N L L (N L L L D0) (N (V b3) (V b24) L L)) L) L L L)) L L, L⟩
def y3067 : Tr Blk := ⟨N (N (N L (N (V b11) L (V b12) L) (N (V b2) L D0 L) L) (N L L L (N L D0 L L)) L (N (N D0 L L L) L L L)) (N (N (N L L L (V b21)) (N (V b22) (V b23) L L) (N L L (V b6) L) (N (V b7) L (V b8) L)) (N (N D0 L L L) L L L) (N (N L L L D0) L L L) (N L (N L L (V b9) (V b4)) (N (V b10) (V b16) (V b17) D0) D1)) (N L L (N (N L D0 L L) L L L) L) (N (N (N D0 L L L) L L L) L (N (N L L L D0) D1 (N D0 L L L) L) L), N (N L (N (N (N L (N L L L D0) L L) L (N L L (N L L D0 D0) D1) L) (N L (N (N L D0 L L) L L L) L (N (N D0 L L L) L L L)) (N L (N (N L L L D0) D1 (N D0 L L L) L) L (N L L (N L L D0 L) L)) (N L (N L L (N L D0 L L) L) L (N L L L D1))) (N (N (N (N D0 D0 L L) L L L) L (N (N D0 L L L) L L L) L) (N (N (N L L L D0) (N (V b19) D0 D0 D0) D1 (N D0 L L L)) (N L (N L L D0 D0) D1 (N D0 L L L)) (N L (N L L D0 L) L L) D2) D3 D3) D4) (N D4 D4 (N D3 (N D2 D2 (N D1 (N D0 (V b19) L L) L L) L) (N (N (N L D0 D0 D0) (N D0 D0 L L) L L) (N L (N L L D0 L) L L) L (N L (N L D0 L L) L L)) (N L L (N L L (N L D0 L L) L) L)) (N (N (N L L (N D0 L L L) L) L (N L L (N L L L D0) (N (V b25) (V b26) D0 D0)) (N D1 (N D0 L L L) L (N L L D0 D0))) (N (N D1 (N D0 L L L) L (N L L D0 L)) (N L L D1 D1) D2 D2) D3 D3)) (N D4 D4 D4 (N D3 (N (N D1 D1 D1 (N D0 L L L)) L L L) L L)) L, L⟩
def e3067 : Fact := .st 45 [p 69 0, .func (.func 46) ⟨[]⟩ ⟨[p 1837 0]⟩] x3067 1838 (.tuple ⟨[]⟩) y3067 2893
theorem s3067 : Ev.stOK [] [] Try.prog 5000 60 45 [p 69 0, .func (.func 46) ⟨[]⟩ ⟨[p 1837 0]⟩] x3067 1838 (.tuple ⟨[]⟩) y3067 = true := by kernel_rfl
theorem h3067 {σ : Nat → Value} {T : List Fact} (hb : ∀ t, isBld t T = isBld t []) : @Fact.Holds ⟨T, []⟩ Try.prog σ e3067 :=
  Fact.stI s3067 (by kernel_rfl) (Ev.hnil) (fun t => (hb t).trans rfl)
end Go.Proofs.Ytdcjmebgcojnmaa.Q30known
