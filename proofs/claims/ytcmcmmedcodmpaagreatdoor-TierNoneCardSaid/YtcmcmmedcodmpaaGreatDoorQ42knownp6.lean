/-
  The examples of a chapter, part 6: calls that are evaluated from a heap to a heap.
-/
import Derived.Test.YtcmcmmedcodmpaaGreatDoorQ42knownp5
namespace Go.Proofs.YtcmcmmedcodmpaaGreatDoor.Q42known
open Go Go.RowKit Go.Proofs.YtcmcmmedcodmpaaGreatDoor.Ev Go.Proofs.YtcmcmmedcodmpaaGreatDoor.Ev.Sh
set_option maxRecDepth 100000
def b64l : List Value := ([t, u6 0, p 320 0, p 338 0] ++ r 6 (pn) ([.map (some 300), .map (some 301)]))
def b64 : Blk := .cells 230 b64l
def b65l : List Value := [i6 1, s 350 0 257 257, s 352 0 256 256]
def b65 : Blk := .cells 300 b65l
def b66l : List Value := [p 354 0, u6 0, u6 0, u6 0, u6 0, i6 0]
def b66 : Blk := .cells 296 b66l
def w36 : T4 Blk := N w28 w29 (N L (N L L L (V b56)) (N L (V b57) L (V b18)) (N (V b10) (V b10) (V b64) L)) w31
def x5198 : Tr Blk := ⟨w27, N (N L (N w36 w35 L L) L L) L L L, L⟩
def w37 : T4 Blk := N (N (V b62) L (V b63) L) L L (N L L (V b20) L)
def w38 : T4 Blk := N (N (V b21) L (V b65) L) (N (V b66) L L L) L L
def w39 : T4 Blk := N w34 w37 w38 L
def y5198 : Tr Blk := ⟨w27, N (N L (N w36 w39 L L) L L) L L L, L⟩
def e5198 : Fact := .st 270 [] x5198 346 (p 356 0) y5198 357
theorem s5198 : Ev.stOK [] [(0, [.int .u8 0, .int .u8 1, .int .u8 56, .int .u8 2, .int .u8 57, .int .u8 49, .int .u8 28, .int .u8 3, .int .u8 61, .int .u8 58, .int .u8 42, .int .u8 50, .int .u8 38, .int .u8 29, .int .u8 17, .int .u8 4, .int .u8 62, .int .u8 47, .int .u8 59, .int .u8 36, .int .u8 45, .int .u8 43, .int .u8 51, .int .u8 22, .int .u8 53, .int .u8 39, .int .u8 33, .int .u8 30, .int .u8 24, .int .u8 18, .int .u8 12, .int .u8 5, .int .u8 63, .int .u8 55, .int .u8 48, .int .u8 27, .int .u8 60, .int .u8 41, .int .u8 37, .int .u8 16, .int .u8 46, .int .u8 35, .int .u8 44, .int .u8 21, .int .u8 52, .int .u8 32, .int .u8 23, .int .u8 11, .int .u8 54, .int .u8 26, .int .u8 40, .int .u8 15, .int .u8 34, .int .u8 20, .int .u8 31, .int .u8 10, .int .u8 25, .int .u8 14, .int .u8 19, .int .u8 9, .int .u8 13, .int .u8 8, .int .u8 7, .int .u8 6])] Tryz.prog 5000 60 270 [] x5198 346 (p 356 0) y5198 = true := by kernel_rfl
theorem h5198 {σ : Nat → Value} {T : List Fact} (hb : ∀ t, isBld t T = isBld t []) : @Fact.Holds ⟨T, [(0, [.int .u8 0, .int .u8 1, .int .u8 56, .int .u8 2, .int .u8 57, .int .u8 49, .int .u8 28, .int .u8 3, .int .u8 61, .int .u8 58, .int .u8 42, .int .u8 50, .int .u8 38, .int .u8 29, .int .u8 17, .int .u8 4, .int .u8 62, .int .u8 47, .int .u8 59, .int .u8 36, .int .u8 45, .int .u8 43, .int .u8 51, .int .u8 22, .int .u8 53, .int .u8 39, .int .u8 33, .int .u8 30, .int .u8 24, .int .u8 18, .int .u8 12, .int .u8 5, .int .u8 63, .int .u8 55, .int .u8 48, .int .u8 27, .int .u8 60, .int .u8 41, .int .u8 37, .int .u8 16, .int .u8 46, .int .u8 35, .int .u8 44, .int .u8 21, .int .u8 52, .int .u8 32, .int .u8 23, .int .u8 11, .int .u8 54, .int .u8 26, .int .u8 40, .int .u8 15, .int .u8 34, .int .u8 20, .int .u8 31, .int .u8 10, .int .u8 25, .int .u8 14, .int .u8 19, .int .u8 9, .int .u8 13, .int .u8 8, .int .u8 7, .int .u8 6])]⟩ Tryz.prog σ e5198 :=
  Fact.stI s5198 (by kernel_rfl) (Ev.hnil) (fun t => (hb t).trans rfl)
def b67l : List Value := [t, u6 0, p 320 0, p 338 0, p 356 0, pn, pn, pn, pn, pn, .map (some 300), .map (some 301)]
def b67 : Blk := .cells 230 b67l
def b68l : List Value := [i6 1, s 368 0 257 257, s 370 0 256 256]
def b68 : Blk := .cells 300 b68l
def b69l : List Value := [p 372 0, u6 0, u6 0, u6 0, u6 0, i6 0]
def b69 : Blk := .cells 296 b69l
def w40 : T4 Blk := N w28 w29 (N L (N L L L (V b56)) (N L (V b57) L (V b18)) (N (V b10) (V b10) (V b67) L)) w31
def x5712 : Tr Blk := ⟨w27, N (N L (N w40 w39 L L) L L) L L L, L⟩
def w41 : T4 Blk := N w34 w37 w38 (N (N (V b20) L (V b21) L) (N (V b68) L (V b69) L) L L)
def y5712 : Tr Blk := ⟨w27, N (N L (N w40 w41 L L) L L) L L L, L⟩
def e5712 : Fact := .st 270 [] x5712 364 (p 374 0) y5712 375
theorem s5712 : Ev.stOK [] [(0, [.int .u8 0, .int .u8 1, .int .u8 56, .int .u8 2, .int .u8 57, .int .u8 49, .int .u8 28, .int .u8 3, .int .u8 61, .int .u8 58, .int .u8 42, .int .u8 50, .int .u8 38, .int .u8 29, .int .u8 17, .int .u8 4, .int .u8 62, .int .u8 47, .int .u8 59, .int .u8 36, .int .u8 45, .int .u8 43, .int .u8 51, .int .u8 22, .int .u8 53, .int .u8 39, .int .u8 33, .int .u8 30, .int .u8 24, .int .u8 18, .int .u8 12, .int .u8 5, .int .u8 63, .int .u8 55, .int .u8 48, .int .u8 27, .int .u8 60, .int .u8 41, .int .u8 37, .int .u8 16, .int .u8 46, .int .u8 35, .int .u8 44, .int .u8 21, .int .u8 52, .int .u8 32, .int .u8 23, .int .u8 11, .int .u8 54, .int .u8 26, .int .u8 40, .int .u8 15, .int .u8 34, .int .u8 20, .int .u8 31, .int .u8 10, .int .u8 25, .int .u8 14, .int .u8 19, .int .u8 9, .int .u8 13, .int .u8 8, .int .u8 7, .int .u8 6])] Tryz.prog 5000 60 270 [] x5712 364 (p 374 0) y5712 = true := by kernel_rfl
theorem h5712 {σ : Nat → Value} {T : List Fact} (hb : ∀ t, isBld t T = isBld t []) : @Fact.Holds ⟨T, [(0, [.int .u8 0, .int .u8 1, .int .u8 56, .int .u8 2, .int .u8 57, .int .u8 49, .int .u8 28, .int .u8 3, .int .u8 61, .int .u8 58, .int .u8 42, .int .u8 50, .int .u8 38, .int .u8 29, .int .u8 17, .int .u8 4, .int .u8 62, .int .u8 47, .int .u8 59, .int .u8 36, .int .u8 45, .int .u8 43, .int .u8 51, .int .u8 22, .int .u8 53, .int .u8 39, .int .u8 33, .int .u8 30, .int .u8 24, .int .u8 18, .int .u8 12, .int .u8 5, .int .u8 63, .int .u8 55, .int .u8 48, .int .u8 27, .int .u8 60, .int .u8 41, .int .u8 37, .int .u8 16, .int .u8 46, .int .u8 35, .int .u8 44, .int .u8 21, .int .u8 52, .int .u8 32, .int .u8 23, .int .u8 11, .int .u8 54, .int .u8 26, .int .u8 40, .int .u8 15, .int .u8 34, .int .u8 20, .int .u8 31, .int .u8 10, .int .u8 25, .int .u8 14, .int .u8 19, .int .u8 9, .int .u8 13, .int .u8 8, .int .u8 7, .int .u8 6])]⟩ Tryz.prog σ e5712 :=
  Fact.stI s5712 (by kernel_rfl) (Ev.hnil) (fun t => (hb t).trans rfl)
end Go.Proofs.YtcmcmmedcodmpaaGreatDoor.Q42known
