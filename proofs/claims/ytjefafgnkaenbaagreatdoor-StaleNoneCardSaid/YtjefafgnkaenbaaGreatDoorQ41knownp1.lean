/-
  The examples of a chapter, part 1: calls that are evaluated from a heap to a heap.
-/
import Derived.Test.YtjefafgnkaenbaaGreatDoorQ41knownp0
namespace Go.Proofs.YtjefafgnkaenbaaGreatDoor.Q41known
open Go Go.RowKit Go.Proofs.YtjefafgnkaenbaaGreatDoor.Ev Go.Proofs.YtjefafgnkaenbaaGreatDoor.Ev.Sh
set_option maxRecDepth 100000
def b25l : List Value := ([t, u6 0, p 95 0, p 113 0] ++ r 6 (pn) ([.map (some 75), .map (some 76)]))
def b25 : Blk := .cells 236 b25l
def b26l : List Value := [i6 1, s 125 0 257 257, s 127 0 256 256]
def b26 : Blk := .cells 341 b26l
def b27l : List Value := [p 129 0, u6 0, u6 0, u6 0, u6 0, i6 0]
def b27 : Blk := .cells 337 b27l
def w8 : T4 Blk := N L (N L L (V b14) L) (N (V b15) L (V b16) (V b8)) (N (V b8) (V b25) L L)
def x1058 : Tr Blk := ⟨N w2 (N w8 w4 w6 w7) L L, L, L⟩
def w9 : T4 Blk := N (N L (V b24) L L) L L (N L (V b18) L (V b19))
def w10 : T4 Blk := N (N (N L (V b26) L (V b27)) L L L) L L L
def y1058 : Tr Blk := ⟨N w2 (N w8 w4 w6 w9) w10 L, L, L⟩
def e1058 : Fact := .st 247 [] x1058 121 (p 131 0) y1058 132
theorem s1058 : Ev.stOK [] [(0, [.int .u8 0, .int .u8 1, .int .u8 56, .int .u8 2, .int .u8 57, .int .u8 49, .int .u8 28, .int .u8 3, .int .u8 61, .int .u8 58, .int .u8 42, .int .u8 50, .int .u8 38, .int .u8 29, .int .u8 17, .int .u8 4, .int .u8 62, .int .u8 47, .int .u8 59, .int .u8 36, .int .u8 45, .int .u8 43, .int .u8 51, .int .u8 22, .int .u8 53, .int .u8 39, .int .u8 33, .int .u8 30, .int .u8 24, .int .u8 18, .int .u8 12, .int .u8 5, .int .u8 63, .int .u8 55, .int .u8 48, .int .u8 27, .int .u8 60, .int .u8 41, .int .u8 37, .int .u8 16, .int .u8 46, .int .u8 35, .int .u8 44, .int .u8 21, .int .u8 52, .int .u8 32, .int .u8 23, .int .u8 11, .int .u8 54, .int .u8 26, .int .u8 40, .int .u8 15, .int .u8 34, .int .u8 20, .int .u8 31, .int .u8 10, .int .u8 25, .int .u8 14, .int .u8 19, .int .u8 9, .int .u8 13, .int .u8 8, .int .u8 7, .int .u8 6])] Tryz.prog 5000 60 247 [] x1058 121 (p 131 0) y1058 = true := by kernel_rfl
theorem h1058 {σ : Nat → Value} {T : List Fact} (hb : ∀ t, isBld t T = isBld t []) : @Fact.Holds ⟨T, [(0, [.int .u8 0, .int .u8 1, .int .u8 56, .int .u8 2, .int .u8 57, .int .u8 49, .int .u8 28, .int .u8 3, .int .u8 61, .int .u8 58, .int .u8 42, .int .u8 50, .int .u8 38, .int .u8 29, .int .u8 17, .int .u8 4, .int .u8 62, .int .u8 47, .int .u8 59, .int .u8 36, .int .u8 45, .int .u8 43, .int .u8 51, .int .u8 22, .int .u8 53, .int .u8 39, .int .u8 33, .int .u8 30, .int .u8 24, .int .u8 18, .int .u8 12, .int .u8 5, .int .u8 63, .int .u8 55, .int .u8 48, .int .u8 27, .int .u8 60, .int .u8 41, .int .u8 37, .int .u8 16, .int .u8 46, .int .u8 35, .int .u8 44, .int .u8 21, .int .u8 52, .int .u8 32, .int .u8 23, .int .u8 11, .int .u8 54, .int .u8 26, .int .u8 40, .int .u8 15, .int .u8 34, .int .u8 20, .int .u8 31, .int .u8 10, .int .u8 25, .int .u8 14, .int .u8 19, .int .u8 9, .int .u8 13, .int .u8 8, .int .u8 7, .int .u8 6])]⟩ Tryz.prog σ e1058 :=
  Fact.stI s1058 (by kernel_rfl) (Ev.hnil) (fun t => (hb t).trans rfl)
def b28l : List Value := [t, u6 0, p 95 0, p 113 0, p 131 0, pn, pn, pn, pn, pn, .map (some 75), .map (some 76)]
def b28 : Blk := .cells 236 b28l
def b29l : List Value := [i6 1, s 143 0 257 257, s 145 0 256 256]
def b29 : Blk := .cells 341 b29l
def b30l : List Value := [p 147 0, u6 0, u6 0, u6 0, u6 0, i6 0]
def b30 : Blk := .cells 337 b30l
def w11 : T4 Blk := N (N L (N L L (V b14) L) (N (V b15) L (V b16) (V b8)) (N (V b8) (V b28) L L)) w4 w6 w9
def x1572 : Tr Blk := ⟨N w2 w11 w10 L, L, L⟩
def w12 : T4 Blk := N (N L (V b26) L (V b27)) L L (N L L L (V b18))
def w13 : T4 Blk := N (N L (V b19) L (V b29)) (N L (V b30) L L) L L
def w14 : T4 Blk := N w12 w13 L L
def y1572 : Tr Blk := ⟨N w2 w11 w14 L, L, L⟩
def e1572 : Fact := .st 247 [] x1572 139 (p 149 0) y1572 150
theorem s1572 : Ev.stOK [] [(0, [.int .u8 0, .int .u8 1, .int .u8 56, .int .u8 2, .int .u8 57, .int .u8 49, .int .u8 28, .int .u8 3, .int .u8 61, .int .u8 58, .int .u8 42, .int .u8 50, .int .u8 38, .int .u8 29, .int .u8 17, .int .u8 4, .int .u8 62, .int .u8 47, .int .u8 59, .int .u8 36, .int .u8 45, .int .u8 43, .int .u8 51, .int .u8 22, .int .u8 53, .int .u8 39, .int .u8 33, .int .u8 30, .int .u8 24, .int .u8 18, .int .u8 12, .int .u8 5, .int .u8 63, .int .u8 55, .int .u8 48, .int .u8 27, .int .u8 60, .int .u8 41, .int .u8 37, .int .u8 16, .int .u8 46, .int .u8 35, .int .u8 44, .int .u8 21, .int .u8 52, .int .u8 32, .int .u8 23, .int .u8 11, .int .u8 54, .int .u8 26, .int .u8 40, .int .u8 15, .int .u8 34, .int .u8 20, .int .u8 31, .int .u8 10, .int .u8 25, .int .u8 14, .int .u8 19, .int .u8 9, .int .u8 13, .int .u8 8, .int .u8 7, .int .u8 6])] Tryz.prog 5000 60 247 [] x1572 139 (p 149 0) y1572 = true := by kernel_rfl
theorem h1572 {σ : Nat → Value} {T : List Fact} (hb : ∀ t, isBld t T = isBld t []) : @Fact.Holds ⟨T, [(0, [.int .u8 0, .int .u8 1, .int .u8 56, .int .u8 2, .int .u8 57, .int .u8 49, .int .u8 28, .int .u8 3, .int .u8 61, .int .u8 58, .int .u8 42, .int .u8 50, .int .u8 38, .int .u8 29, .int .u8 17, .int .u8 4, .int .u8 62, .int .u8 47, .int .u8 59, .int .u8 36, .int .u8 45, .int .u8 43, .int .u8 51, .int .u8 22, .int .u8 53, .int .u8 39, .int .u8 33, .int .u8 30, .int .u8 24, .int .u8 18, .int .u8 12, .int .u8 5, .int .u8 63, .int .u8 55, .int .u8 48, .int .u8 27, .int .u8 60, .int .u8 41, .int .u8 37, .int .u8 16, .int .u8 46, .int .u8 35, .int .u8 44, .int .u8 21, .int .u8 52, .int .u8 32, .int .u8 23, .int .u8 11, .int .u8 54, .int .u8 26, .int .u8 40, .int .u8 15, .int .u8 34, .int .u8 20, .int .u8 31, .int .u8 10, .int .u8 25, .int .u8 14, .int .u8 19, .int .u8 9, .int .u8 13, .int .u8 8, .int .u8 7, .int .u8 6])]⟩ Tryz.prog σ e1572 :=
  Fact.stI s1572 (by kernel_rfl) (Ev.hnil) (fun t => (hb t).trans rfl)
end Go.Proofs.YtjefafgnkaenbaaGreatDoor.Q41known
