/-
  The examples of a chapter, part 2: calls that are evaluated from a heap to a heap.
-/
import Derived.Test.YtjefafgnkaenbaaGreatDoorQ41knownp1
namespace Go.Proofs.YtjefafgnkaenbaaGreatDoor.Q41known
open Go Go.RowKit Go.Proofs.YtjefafgnkaenbaaGreatDoor.Ev Go.Proofs.YtjefafgnkaenbaaGreatDoor.Ev.Sh
set_option maxRecDepth 100000
def b31l : List Value := [t, u6 0, p 95 0, p 113 0, p 131 0, p 149 0, pn, pn, pn, pn, .map (some 75), .map (some 76)]
def b31 : Blk := .cells 236 b31l
def b32l : List Value := [i6 1, s 161 0 257 257, s 163 0 256 256]
def b32 : Blk := .cells 341 b32l
def b33l : List Value := [p 165 0, u6 0, u6 0, u6 0, u6 0, i6 0]
def b33 : Blk := .cells 337 b33l
def w15 : T4 Blk := N (N L (N L L (V b14) L) (N (V b15) L (V b16) (V b8)) (N (V b8) (V b31) L L)) w4 w6 w9
def x2086 : Tr Blk := ⟨N w2 w15 w14 L, L, L⟩
def w16 : T4 Blk := N (N L (V b18) L (V b19)) (N L (V b32) L (V b33)) L L
def w17 : T4 Blk := N w12 w13 w16 L
def y2086 : Tr Blk := ⟨N w2 w15 w17 L, L, L⟩
def e2086 : Fact := .st 247 [] x2086 157 (p 167 0) y2086 168
theorem s2086 : Ev.stOK [] [(0, [.int .u8 0, .int .u8 1, .int .u8 56, .int .u8 2, .int .u8 57, .int .u8 49, .int .u8 28, .int .u8 3, .int .u8 61, .int .u8 58, .int .u8 42, .int .u8 50, .int .u8 38, .int .u8 29, .int .u8 17, .int .u8 4, .int .u8 62, .int .u8 47, .int .u8 59, .int .u8 36, .int .u8 45, .int .u8 43, .int .u8 51, .int .u8 22, .int .u8 53, .int .u8 39, .int .u8 33, .int .u8 30, .int .u8 24, .int .u8 18, .int .u8 12, .int .u8 5, .int .u8 63, .int .u8 55, .int .u8 48, .int .u8 27, .int .u8 60, .int .u8 41, .int .u8 37, .int .u8 16, .int .u8 46, .int .u8 35, .int .u8 44, .int .u8 21, .int .u8 52, .int .u8 32, .int .u8 23, .int .u8 11, .int .u8 54, .int .u8 26, .int .u8 40, .int .u8 15, .int .u8 34, .int .u8 20, .int .u8 31, .int .u8 10, .int .u8 25, .int .u8 14, .int .u8 19, .int .u8 9, .int .u8 13, .int .u8 8, .int .u8 7, .int .u8 6])] Tryz.prog 5000 60 247 [] x2086 157 (p 167 0) y2086 = true := by kernel_rfl
theorem h2086 {σ : Nat → Value} {T : List Fact} (hb : ∀ t, isBld t T = isBld t []) : @Fact.Holds ⟨T, [(0, [.int .u8 0, .int .u8 1, .int .u8 56, .int .u8 2, .int .u8 57, .int .u8 49, .int .u8 28, .int .u8 3, .int .u8 61, .int .u8 58, .int .u8 42, .int .u8 50, .int .u8 38, .int .u8 29, .int .u8 17, .int .u8 4, .int .u8 62, .int .u8 47, .int .u8 59, .int .u8 36, .int .u8 45, .int .u8 43, .int .u8 51, .int .u8 22, .int .u8 53, .int .u8 39, .int .u8 33, .int .u8 30, .int .u8 24, .int .u8 18, .int .u8 12, .int .u8 5, .int .u8 63, .int .u8 55, .int .u8 48, .int .u8 27, .int .u8 60, .int .u8 41, .int .u8 37, .int .u8 16, .int .u8 46, .int .u8 35, .int .u8 44, .int .u8 21, .int .u8 52, .int .u8 32, .int .u8 23, .int .u8 11, .int .u8 54, .int .u8 26, .int .u8 40, .int .u8 15, .int .u8 34, .int .u8 20, .int .u8 31, .int .u8 10, .int .u8 25, .int .u8 14, .int .u8 19, .int .u8 9, .int .u8 13, .int .u8 8, .int .u8 7, .int .u8 6])]⟩ Tryz.prog σ e2086 :=
  Fact.stI s2086 (by kernel_rfl) (Ev.hnil) (fun t => (hb t).trans rfl)
def b34l : List Value := [t, u6 0, p 95 0, p 113 0, p 131 0, p 149 0, p 167 0, pn, pn, pn, .map (some 75), .map (some 76)]
def b34 : Blk := .cells 236 b34l
def b35l : List Value := [i6 1, s 179 0 257 257, s 181 0 256 256]
def b35 : Blk := .cells 341 b35l
def b36l : List Value := [p 183 0, u6 0, u6 0, u6 0, u6 0, i6 0]
def b36 : Blk := .cells 337 b36l
def w18 : T4 Blk := N (N L (N L L (V b14) L) (N (V b15) L (V b16) (V b8)) (N (V b8) (V b34) L L)) w4 w6 w9
def x2600 : Tr Blk := ⟨N w2 w18 w17 L, L, L⟩
def w19 : T4 Blk := N w12 w13 w16 (N (N L L L (V b18)) (N L (V b19) L (V b35)) (N L (V b36) L L) L)
def y2600 : Tr Blk := ⟨N w2 w18 w19 L, L, L⟩
def e2600 : Fact := .st 247 [] x2600 175 (p 185 0) y2600 186
theorem s2600 : Ev.stOK [] [(0, [.int .u8 0, .int .u8 1, .int .u8 56, .int .u8 2, .int .u8 57, .int .u8 49, .int .u8 28, .int .u8 3, .int .u8 61, .int .u8 58, .int .u8 42, .int .u8 50, .int .u8 38, .int .u8 29, .int .u8 17, .int .u8 4, .int .u8 62, .int .u8 47, .int .u8 59, .int .u8 36, .int .u8 45, .int .u8 43, .int .u8 51, .int .u8 22, .int .u8 53, .int .u8 39, .int .u8 33, .int .u8 30, .int .u8 24, .int .u8 18, .int .u8 12, .int .u8 5, .int .u8 63, .int .u8 55, .int .u8 48, .int .u8 27, .int .u8 60, .int .u8 41, .int .u8 37, .int .u8 16, .int .u8 46, .int .u8 35, .int .u8 44, .int .u8 21, .int .u8 52, .int .u8 32, .int .u8 23, .int .u8 11, .int .u8 54, .int .u8 26, .int .u8 40, .int .u8 15, .int .u8 34, .int .u8 20, .int .u8 31, .int .u8 10, .int .u8 25, .int .u8 14, .int .u8 19, .int .u8 9, .int .u8 13, .int .u8 8, .int .u8 7, .int .u8 6])] Tryz.prog 5000 60 247 [] x2600 175 (p 185 0) y2600 = true := by kernel_rfl
theorem h2600 {σ : Nat → Value} {T : List Fact} (hb : ∀ t, isBld t T = isBld t []) : @Fact.Holds ⟨T, [(0, [.int .u8 0, .int .u8 1, .int .u8 56, .int .u8 2, .int .u8 57, .int .u8 49, .int .u8 28, .int .u8 3, .int .u8 61, .int .u8 58, .int .u8 42, .int .u8 50, .int .u8 38, .int .u8 29, .int .u8 17, .int .u8 4, .int .u8 62, .int .u8 47, .int .u8 59, .int .u8 36, .int .u8 45, .int .u8 43, .int .u8 51, .int .u8 22, .int .u8 53, .int .u8 39, .int .u8 33, .int .u8 30, .int .u8 24, .int .u8 18, .int .u8 12, .int .u8 5, .int .u8 63, .int .u8 55, .int .u8 48, .int .u8 27, .int .u8 60, .int .u8 41, .int .u8 37, .int .u8 16, .int .u8 46, .int .u8 35, .int .u8 44, .int .u8 21, .int .u8 52, .int .u8 32, .int .u8 23, .int .u8 11, .int .u8 54, .int .u8 26, .int .u8 40, .int .u8 15, .int .u8 34, .int .u8 20, .int .u8 31, .int .u8 10, .int .u8 25, .int .u8 14, .int .u8 19, .int .u8 9, .int .u8 13, .int .u8 8, .int .u8 7, .int .u8 6])]⟩ Tryz.prog σ e2600 :=
  Fact.stI s2600 (by kernel_rfl) (Ev.hnil) (fun t => (hb t).trans rfl)
end Go.Proofs.YtjefafgnkaenbaaGreatDoor.Q41known
