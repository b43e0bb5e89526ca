/-
  The examples of a chapter, part 5: calls that are evaluated from a heap to a heap.
-/
import Derived.Test.YtdcjmebgcojnmaaDoorQ20knownp4
namespace Go.Proofs.YtdcjmebgcojnmaaDoor.Q20known
open Go Go.RowKit Go.Proofs.YtdcjmebgcojnmaaDoor.Ev Go.Proofs.YtdcjmebgcojnmaaDoor.Ev.Sh
set_option maxRecDepth 100000
def b18l : List Value := [t, u6 250, p 20 0, p 38 0, p 56 0, p 74 0, p 92 0, pn, pn, pn, .map (some 0), .map (some 1)]
def b18 : Blk := .cells 49 b18l
def b19l : List Value := [i6 1, s 104 0 257 257, s 106 0 256 256]
def b19 : Blk := .cells 102 b19l
def b20l : List Value := [p 108 0, u6 0, u6 0, u6 0, u6 0, i6 0]
def b20 : Blk := .cells 29 b20l
def x2572 : Tr Blk := ⟨N (N (N (N (V b0) (V b0) (V b18) L) L L (N L L (V b2) L)) (N (N (V b3) L (V b4) L) (N (V b5) L L L) L L) (N (N (V b2) L (V b3) L) (N (V b7) L (V b8) L) L L) (N (N L L (V b2) L) (N (V b3) L (V b10) L) (N (V b11) L L L) L)) (N (N L (N (V b2) L (V b3) L) (N (V b13) L (V b14) L) L) (N L (N L L (V b2) L) (N (V b3) L (V b16) L) (N (V b17) L L L)) L L) L L, L, L⟩
def y2572 : Tr Blk := ⟨N (N (N (N (V b0) (V b0) (V b18) L) L L (N L L (V b2) L)) (N (N (V b3) L (V b4) L) (N (V b5) L L L) L L) (N (N (V b2) L (V b3) L) (N (V b7) L (V b8) L) L L) (N (N L L (V b2) L) (N (V b3) L (V b10) L) (N (V b11) L L L) L)) (N (N L (N (V b2) L (V b3) L) (N (V b13) L (V b14) L) L) (N L (N L L (V b2) L) (N (V b3) L (V b16) L) (N (V b17) L L L)) (N L L (N (V b2) L (V b3) L) (N (V b19) L (V b20) L)) L) L L, L, L⟩
def e2572 : Fact := .st 38 [] x2572 100 (p 110 0) y2572 111
theorem s2572 : Ev.stOK [] [(0, [.int .u8 0, .int .u8 1, .int .u8 56, .int .u8 2, .int .u8 57, .int .u8 49, .int .u8 28, .int .u8 3, .int .u8 61, .int .u8 58, .int .u8 42, .int .u8 50, .int .u8 38, .int .u8 29, .int .u8 17, .int .u8 4, .int .u8 62, .int .u8 47, .int .u8 59, .int .u8 36, .int .u8 45, .int .u8 43, .int .u8 51, .int .u8 22, .int .u8 53, .int .u8 39, .int .u8 33, .int .u8 30, .int .u8 24, .int .u8 18, .int .u8 12, .int .u8 5, .int .u8 63, .int .u8 55, .int .u8 48, .int .u8 27, .int .u8 60, .int .u8 41, .int .u8 37, .int .u8 16, .int .u8 46, .int .u8 35, .int .u8 44, .int .u8 21, .int .u8 52, .int .u8 32, .int .u8 23, .int .u8 11, .int .u8 54, .int .u8 26, .int .u8 40, .int .u8 15, .int .u8 34, .int .u8 20, .int .u8 31, .int .u8 10, .int .u8 25, .int .u8 14, .int .u8 19, .int .u8 9, .int .u8 13, .int .u8 8, .int .u8 7, .int .u8 6])] Tryd.prog 5000 60 38 [] x2572 100 (p 110 0) y2572 = true := by kernel_rfl
theorem h2572 {σ : Nat → Value} {T : List Fact} (hb : ∀ t, isBld t T = isBld t []) : @Fact.Holds ⟨T, [(0, [.int .u8 0, .int .u8 1, .int .u8 56, .int .u8 2, .int .u8 57, .int .u8 49, .int .u8 28, .int .u8 3, .int .u8 61, .int .u8 58, .int .u8 42, .int .u8 50, .int .u8 38, .int .u8 29, .int .u8 17, .int .u8 4, .int .u8 62, .int .u8 47, .int .u8 59, .int .u8 36, .int .u8 45, .int .u8 43, .int .u8 51, .int .u8 22, .int .u8 53, .int .u8 39, .int .u8 33, .int .u8 30, .int .u8 24, .int .u8 18, .int .u8 12, .int .u8 5, .int .u8 63, .int .u8 55, .int .u8 48, .int .u8 27, .int .u8 60, .int .u8 41, .int .u8 37, .int .u8 16, .int .u8 46, .int .u8 35, .int .u8 44, .int .u8 21, .int .u8 52, .int .u8 32, .int .u8 23, .int .u8 11, .int .u8 54, .int .u8 26, .int .u8 40, .int .u8 15, .int .u8 34, .int .u8 20, .int .u8 31, .int .u8 10, .int .u8 25, .int .u8 14, .int .u8 19, .int .u8 9, .int .u8 13, .int .u8 8, .int .u8 7, .int .u8 6])]⟩ Tryd.prog σ e2572 :=
  Fact.stI s2572 (by kernel_rfl) (Ev.hnil) (fun t => (hb t).trans rfl)
end Go.Proofs.YtdcjmebgcojnmaaDoor.Q20known
