/-
  The examples of a chapter, part 1: calls that are evaluated from a heap to a heap.
-/
import Derived.Test.YtdcjmebgcojnmaaDoorQ19knownp0
namespace Go.Proofs.YtdcjmebgcojnmaaDoor.Q19known
open Go Go.RowKit Go.Proofs.YtdcjmebgcojnmaaDoor.Ev Go.Proofs.YtdcjmebgcojnmaaDoor.Ev.Sh
set_option maxRecDepth 100000
def b7l : List Value := [p 8 0, u6 0, u6 64, u6 0, u6 0, i6 1]
def b7 : Blk := .cells 29 b7l
def b8l : List Value := (((((b5l).set 21 (u3 78)).set 22 (u3 78)).set 23 (.int .i32 (.ofNat 70))).set 234 (u3 7)).set 235 (u3 7)
def b8 : Blk := .cells 105 b8l
def b9l : List Value := (b1l).set 70 (i6 1)
def b9 : Blk := .cells 3 b9l
def x515 : Tr Blk := ⟨N (N (N L (N (V b0) L (V b1) L) (N (V b2) L (V b3) L) L) L L L) L L L, L, L⟩
def y515 : Tr Blk := ⟨N (N (N L (N D0 L D0 L) (N (V b6) L (V b7) D0) L) (N (N (V b8) L (V b9) L) (N D0 L D0 D0) D1 D1) D2 D2) D3 D3 D3, N (N L (N (N D2 (N D1 (N D0 D0 D0 L) L L) L L) L L L) L L) L L L, L⟩
def e515 : Fact := .st 5 [p 10 0, u3 7, i6 70] x515 11 (i6 0) y515 310
theorem s515 : Ev.stOK [e523] [(0, [.int .u8 0, .int .u8 1, .int .u8 56, .int .u8 2, .int .u8 57, .int .u8 49, .int .u8 28, .int .u8 3, .int .u8 61, .int .u8 58, .int .u8 42, .int .u8 50, .int .u8 38, .int .u8 29, .int .u8 17, .int .u8 4, .int .u8 62, .int .u8 47, .int .u8 59, .int .u8 36, .int .u8 45, .int .u8 43, .int .u8 51, .int .u8 22, .int .u8 53, .int .u8 39, .int .u8 33, .int .u8 30, .int .u8 24, .int .u8 18, .int .u8 12, .int .u8 5, .int .u8 63, .int .u8 55, .int .u8 48, .int .u8 27, .int .u8 60, .int .u8 41, .int .u8 37, .int .u8 16, .int .u8 46, .int .u8 35, .int .u8 44, .int .u8 21, .int .u8 52, .int .u8 32, .int .u8 23, .int .u8 11, .int .u8 54, .int .u8 26, .int .u8 40, .int .u8 15, .int .u8 34, .int .u8 20, .int .u8 31, .int .u8 10, .int .u8 25, .int .u8 14, .int .u8 19, .int .u8 9, .int .u8 13, .int .u8 8, .int .u8 7, .int .u8 6])] Tryd.prog 5000 60 5 [p 10 0, u3 7, i6 70] x515 11 (i6 0) y515 = true := by kernel_rfl
theorem h515 {σ : Nat → Value} {T : List Fact} (hb : ∀ t, isBld t T = isBld t []) : @Fact.Holds ⟨T, [(0, [.int .u8 0, .int .u8 1, .int .u8 56, .int .u8 2, .int .u8 57, .int .u8 49, .int .u8 28, .int .u8 3, .int .u8 61, .int .u8 58, .int .u8 42, .int .u8 50, .int .u8 38, .int .u8 29, .int .u8 17, .int .u8 4, .int .u8 62, .int .u8 47, .int .u8 59, .int .u8 36, .int .u8 45, .int .u8 43, .int .u8 51, .int .u8 22, .int .u8 53, .int .u8 39, .int .u8 33, .int .u8 30, .int .u8 24, .int .u8 18, .int .u8 12, .int .u8 5, .int .u8 63, .int .u8 55, .int .u8 48, .int .u8 27, .int .u8 60, .int .u8 41, .int .u8 37, .int .u8 16, .int .u8 46, .int .u8 35, .int .u8 44, .int .u8 21, .int .u8 52, .int .u8 32, .int .u8 23, .int .u8 11, .int .u8 54, .int .u8 26, .int .u8 40, .int .u8 15, .int .u8 34, .int .u8 20, .int .u8 31, .int .u8 10, .int .u8 25, .int .u8 14, .int .u8 19, .int .u8 9, .int .u8 13, .int .u8 8, .int .u8 7, .int .u8 6])]⟩ Tryd.prog σ e515 :=
  Fact.stI s515 (by kernel_rfl) (Ev.hcons (h523 (fun _ => rfl)) (Ev.hnil)) (fun t => (hb t).trans rfl)
end Go.Proofs.YtdcjmebgcojnmaaDoor.Q19known
