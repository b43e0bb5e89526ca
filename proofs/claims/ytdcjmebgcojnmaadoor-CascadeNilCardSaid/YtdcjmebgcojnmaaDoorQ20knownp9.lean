/-
  The examples of a chapter, part 9: calls that are evaluated from a heap to a heap.
-/
import Derived.Test.YtdcjmebgcojnmaaDoorQ20knownp8
namespace Go.Proofs.YtdcjmebgcojnmaaDoor.Q20known
open Go Go.RowKit Go.Proofs.YtdcjmebgcojnmaaDoor.Ev Go.Proofs.YtdcjmebgcojnmaaDoor.Ev.Sh
set_option maxRecDepth 100000
def b33 : Blk := .map [⟨u3 1, .agg ⟨[u3 1, u6 255, u6 1]⟩, 0⟩] 1
def b34 : Blk := .map [⟨u6 1, .agg ⟨[]⟩, 0⟩] 1
def b35l : List Value := [p 18 0, u6 0, u6 0, u6 0, u6 9223372036854775808, i6 1]
def b35 : Blk := .cells 29 b35l
def b36l : List Value := (((((b31l).set 3 (u3 257)).set 4 (u3 257)).set 5 (.int .i32 (.ofNat 255))).set 771 (u3 1)).set 772 (u3 1)
def b36 : Blk := .cells 105 b36l
def b37l : List Value := (b3l).set 255 (i6 1)
def b37 : Blk := .cells 3 b37l
def x4115 : Tr Blk := ⟨N (N (N (N (V b0) (V b0) (V b24) L) L L (N L L (V b2) L)) (N (N (V b3) L (V b4) L) (N (V b5) L L L) L L) (N (N (V b2) L (V b3) L) (N (V b7) L (V b8) L) L L) (N (N L L (V b2) L) (N (V b3) L (V b10) L) (N (V b11) L L L) L)) (N (N L (N (V b2) L (V b3) L) (N (V b13) L (V b14) L) L) (N L (N L L (V b2) L) (N (V b3) L (V b16) L) (N (V b17) L L L)) (N L L (N (V b2) L (V b3) L) (N (V b19) L (V b20) L)) (N L L (N L L (V b2) L) (N (V b3) L (V b22) L))) (N (N (N (V b23) L L L) L L (N (V b2) L (V b3) L)) (N (N (V b25) L (V b26) D0) L L L) L L) L, L, L⟩
def y4115 : Tr Blk := ⟨N (N (N (N (V b33) (V b34) (V b24) L) L L (N L L D0 L)) (N (N D0 L (V b32) L) (N (V b35) L L L) L L) (N (N (V b2) L (V b3) L) (N (V b7) L (V b8) L) L L) (N (N L L (V b2) L) (N (V b3) L (V b10) L) (N (V b11) L L L) L)) (N (N L (N (V b2) L (V b3) L) (N (V b13) L (V b14) L) L) (N L (N L L (V b2) L) (N (V b3) L (V b16) L) (N (V b17) L L L)) (N L L (N (V b2) L (V b3) L) (N (V b19) L (V b20) L)) (N L L (N L L (V b2) L) (N (V b3) L (V b22) L))) (N (N (N (V b23) L L L) L L (N (V b2) L (V b3) L)) (N (N (V b25) L (V b26) D0) (N D0 L L L) L L) (N L (N L L D0 L) L L) (N (N L L L D0) (N L L D0 L) L L)) (N (N (N L L D0 L) (N L L L (V b36)) (N L (V b37) L D0) (N L D0 D0 D0)) D2 D2 D2), N (N L (N D3 D3 D3 (N (N D1 D1 D1 (N D0 D0 L L)) L L L)) L L) L L L, L⟩
def e4115 : Fact := .st 17 [p 2 0, .agg ⟨[u3 1, u6 255, u6 1]⟩] x4115 148 (i6 0) y4115 509
theorem s4115 : Ev.stOK [e4131] [(0, [.int .u8 0, .int .u8 1, .int .u8 56, .int .u8 2, .int .u8 57, .int .u8 49, .int .u8 28, .int .u8 3, .int .u8 61, .int .u8 58, .int .u8 42, .int .u8 50, .int .u8 38, .int .u8 29, .int .u8 17, .int .u8 4, .int .u8 62, .int .u8 47, .int .u8 59, .int .u8 36, .int .u8 45, .int .u8 43, .int .u8 51, .int .u8 22, .int .u8 53, .int .u8 39, .int .u8 33, .int .u8 30, .int .u8 24, .int .u8 18, .int .u8 12, .int .u8 5, .int .u8 63, .int .u8 55, .int .u8 48, .int .u8 27, .int .u8 60, .int .u8 41, .int .u8 37, .int .u8 16, .int .u8 46, .int .u8 35, .int .u8 44, .int .u8 21, .int .u8 52, .int .u8 32, .int .u8 23, .int .u8 11, .int .u8 54, .int .u8 26, .int .u8 40, .int .u8 15, .int .u8 34, .int .u8 20, .int .u8 31, .int .u8 10, .int .u8 25, .int .u8 14, .int .u8 19, .int .u8 9, .int .u8 13, .int .u8 8, .int .u8 7, .int .u8 6])] Tryd.prog 5000 60 17 [p 2 0, .agg ⟨[u3 1, u6 255, u6 1]⟩] x4115 148 (i6 0) y4115 = true := by kernel_rfl
theorem h4115 {σ : Nat → Value} {T : List Fact} (hb : ∀ t, isBld t T = isBld t []) : @Fact.Holds ⟨T, [(0, [.int .u8 0, .int .u8 1, .int .u8 56, .int .u8 2, .int .u8 57, .int .u8 49, .int .u8 28, .int .u8 3, .int .u8 61, .int .u8 58, .int .u8 42, .int .u8 50, .int .u8 38, .int .u8 29, .int .u8 17, .int .u8 4, .int .u8 62, .int .u8 47, .int .u8 59, .int .u8 36, .int .u8 45, .int .u8 43, .int .u8 51, .int .u8 22, .int .u8 53, .int .u8 39, .int .u8 33, .int .u8 30, .int .u8 24, .int .u8 18, .int .u8 12, .int .u8 5, .int .u8 63, .int .u8 55, .int .u8 48, .int .u8 27, .int .u8 60, .int .u8 41, .int .u8 37, .int .u8 16, .int .u8 46, .int .u8 35, .int .u8 44, .int .u8 21, .int .u8 52, .int .u8 32, .int .u8 23, .int .u8 11, .int .u8 54, .int .u8 26, .int .u8 40, .int .u8 15, .int .u8 34, .int .u8 20, .int .u8 31, .int .u8 10, .int .u8 25, .int .u8 14, .int .u8 19, .int .u8 9, .int .u8 13, .int .u8 8, .int .u8 7, .int .u8 6])]⟩ Tryd.prog σ e4115 :=
  Fact.stI s4115 (by kernel_rfl) (Ev.hcons (h4131 (fun _ => rfl)) (Ev.hnil)) (fun t => (hb t).trans rfl)
end Go.Proofs.YtdcjmebgcojnmaaDoor.Q20known
