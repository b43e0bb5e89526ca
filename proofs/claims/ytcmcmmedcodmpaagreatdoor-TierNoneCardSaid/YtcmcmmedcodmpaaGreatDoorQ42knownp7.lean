/-
  The examples of a chapter, part 7: calls that are evaluated from a heap to a heap.
-/
import Derived.Test.YtcmcmmedcodmpaaGreatDoorQ42knownp6
namespace Go.Proofs.YtcmcmmedcodmpaaGreatDoor.Q42known
open Go Go.RowKit Go.Proofs.YtcmcmmedcodmpaaGreatDoor.Ev Go.Proofs.YtcmcmmedcodmpaaGreatDoor.Ev.Sh
set_option maxRecDepth 100000
def b70l : List Value := [t, u6 0, p 320 0, p 338 0, p 356 0, p 374 0, pn, pn, pn, pn, .map (some 300), .map (some 301)]
def b70 : Blk := .cells 230 b70l
def b71l : List Value := [i6 1, s 386 0 257 257, s 388 0 256 256]
def b71 : Blk := .cells 300 b71l
def b72l : List Value := [p 390 0, u6 0, u6 0, u6 0, u6 0, i6 0]
def b72 : Blk := .cells 296 b72l
def w42 : T4 Blk := N w28 w29 (N L (N L L L (V b56)) (N L (V b57) L (V b18)) (N (V b10) (V b10) (V b70) L)) w31
def x6226 : Tr Blk := ⟨w27, N (N L (N w42 w41 L L) L L) L L L, L⟩
def w43 : T4 Blk := N (N L L (V b20) L) (N (V b21) L (V b71) L) (N (V b72) L L L) L
def w44 : T4 Blk := N w43 L L L
def y6226 : Tr Blk := ⟨w27, N (N L (N w42 w41 w44 L) L L) L L L, L⟩
def e6226 : Fact := .st 270 [] x6226 382 (p 392 0) y6226 393
theorem s6226 : Ev.stOK [] [(0, [.int .u8 0, .int .u8 1, .int .u8 56, .int .u8 2, .int .u8 57, .int .u8 49, .int .u8 28, .int .u8 3, .int .u8 61, .int .u8 58, .int .u8 42, .int .u8 50, .int .u8 38, .int .u8 29, .int .u8 17, .int .u8 4, .int .u8 62, .int .u8 47, .int .u8 59, .int .u8 36, .int .u8 45, .int .u8 43, .int .u8 51, .int .u8 22, .int .u8 53, .int .u8 39, .int .u8 33, .int .u8 30, .int .u8 24, .int .u8 18, .int .u8 12, .int .u8 5, .int .u8 63, .int .u8 55, .int .u8 48, .int .u8 27, .int .u8 60, .int .u8 41, .int .u8 37, .int .u8 16, .int .u8 46, .int .u8 35, .int .u8 44, .int .u8 21, .int .u8 52, .int .u8 32, .int .u8 23, .int .u8 11, .int .u8 54, .int .u8 26, .int .u8 40, .int .u8 15, .int .u8 34, .int .u8 20, .int .u8 31, .int .u8 10, .int .u8 25, .int .u8 14, .int .u8 19, .int .u8 9, .int .u8 13, .int .u8 8, .int .u8 7, .int .u8 6])] Tryz.prog 5000 60 270 [] x6226 382 (p 392 0) y6226 = true := by kernel_rfl
theorem h6226 {σ : Nat → Value} {T : List Fact} (hb : ∀ t, isBld t T = isBld t []) : @Fact.Holds ⟨T, [(0, [.int .u8 0, .int .u8 1, .int .u8 56, .int .u8 2, .int .u8 57, .int .u8 49, .int .u8 28, .int .u8 3, .int .u8 61, .int .u8 58, .int .u8 42, .int .u8 50, .int .u8 38, .int .u8 29, .int .u8 17, .int .u8 4, .int .u8 62, .int .u8 47, .int .u8 59, .int .u8 36, .int .u8 45, .int .u8 43, .int .u8 51, .int .u8 22, .int .u8 53, .int .u8 39, .int .u8 33, .int .u8 30, .int .u8 24, .int .u8 18, .int .u8 12, .int .u8 5, .int .u8 63, .int .u8 55, .int .u8 48, .int .u8 27, .int .u8 60, .int .u8 41, .int .u8 37, .int .u8 16, .int .u8 46, .int .u8 35, .int .u8 44, .int .u8 21, .int .u8 52, .int .u8 32, .int .u8 23, .int .u8 11, .int .u8 54, .int .u8 26, .int .u8 40, .int .u8 15, .int .u8 34, .int .u8 20, .int .u8 31, .int .u8 10, .int .u8 25, .int .u8 14, .int .u8 19, .int .u8 9, .int .u8 13, .int .u8 8, .int .u8 7, .int .u8 6])]⟩ Tryz.prog σ e6226 :=
  Fact.stI s6226 (by kernel_rfl) (Ev.hnil) (fun t => (hb t).trans rfl)
def b73l : List Value := [t, u6 0, p 320 0, p 338 0, p 356 0, p 374 0, p 392 0, pn, pn, pn, .map (some 300), .map (some 301)]
def b73 : Blk := .cells 230 b73l
def b74l : List Value := [i6 1, s 404 0 257 257, s 406 0 256 256]
def b74 : Blk := .cells 300 b74l
def b75l : List Value := [p 408 0, u6 0, u6 0, u6 0, u6 0, i6 0]
def b75 : Blk := .cells 296 b75l
def w45 : T4 Blk := N w28 w29 (N L (N L L L (V b56)) (N L (V b57) L (V b18)) (N (V b10) (V b10) (V b73) L)) w31
def x6740 : Tr Blk := ⟨w27, N (N L (N w45 w41 w44 L) L L) L L L, L⟩
def w46 : T4 Blk := N L (N (V b20) L (V b21) L) (N (V b74) L (V b75) L) L
def w47 : T4 Blk := N w43 w46 L L
def y6740 : Tr Blk := ⟨w27, N (N L (N w45 w41 w47 L) L L) L L L, L⟩
def e6740 : Fact := .st 270 [] x6740 400 (p 410 0) y6740 411
theorem s6740 : Ev.stOK [] [(0, [.int .u8 0, .int .u8 1, .int .u8 56, .int .u8 2, .int .u8 57, .int .u8 49, .int .u8 28, .int .u8 3, .int .u8 61, .int .u8 58, .int .u8 42, .int .u8 50, .int .u8 38, .int .u8 29, .int .u8 17, .int .u8 4, .int .u8 62, .int .u8 47, .int .u8 59, .int .u8 36, .int .u8 45, .int .u8 43, .int .u8 51, .int .u8 22, .int .u8 53, .int .u8 39, .int .u8 33, .int .u8 30, .int .u8 24, .int .u8 18, .int .u8 12, .int .u8 5, .int .u8 63, .int .u8 55, .int .u8 48, .int .u8 27, .int .u8 60, .int .u8 41, .int .u8 37, .int .u8 16, .int .u8 46, .int .u8 35, .int .u8 44, .int .u8 21, .int .u8 52, .int .u8 32, .int .u8 23, .int .u8 11, .int .u8 54, .int .u8 26, .int .u8 40, .int .u8 15, .int .u8 34, .int .u8 20, .int .u8 31, .int .u8 10, .int .u8 25, .int .u8 14, .int .u8 19, .int .u8 9, .int .u8 13, .int .u8 8, .int .u8 7, .int .u8 6])] Tryz.prog 5000 60 270 [] x6740 400 (p 410 0) y6740 = true := by kernel_rfl
theorem h6740 {σ : Nat → Value} {T : List Fact} (hb : ∀ t, isBld t T = isBld t []) : @Fact.Holds ⟨T, [(0, [.int .u8 0, .int .u8 1, .int .u8 56, .int .u8 2, .int .u8 57, .int .u8 49, .int .u8 28, .int .u8 3, .int .u8 61, .int .u8 58, .int .u8 42, .int .u8 50, .int .u8 38, .int .u8 29, .int .u8 17, .int .u8 4, .int .u8 62, .int .u8 47, .int .u8 59, .int .u8 36, .int .u8 45, .int .u8 43, .int .u8 51, .int .u8 22, .int .u8 53, .int .u8 39, .int .u8 33, .int .u8 30, .int .u8 24, .int .u8 18, .int .u8 12, .int .u8 5, .int .u8 63, .int .u8 55, .int .u8 48, .int .u8 27, .int .u8 60, .int .u8 41, .int .u8 37, .int .u8 16, .int .u8 46, .int .u8 35, .int .u8 44, .int .u8 21, .int .u8 52, .int .u8 32, .int .u8 23, .int .u8 11, .int .u8 54, .int .u8 26, .int .u8 40, .int .u8 15, .int .u8 34, .int .u8 20, .int .u8 31, .int .u8 10, .int .u8 25, .int .u8 14, .int .u8 19, .int .u8 9, .int .u8 13, .int .u8 8, .int .u8 7, .int .u8 6])]⟩ Tryz.prog σ e6740 :=
  Fact.stI s6740 (by kernel_rfl) (Ev.hnil) (fun t => (hb t).trans rfl)
end Go.Proofs.YtcmcmmedcodmpaaGreatDoor.Q42known
