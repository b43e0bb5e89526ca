/-
  The examples of a chapter, part 15: calls that are evaluated from a heap to a heap.
-/
import Derived.Test.YtcmcmmedcodmpaaGreatDoorQ42knownp14
namespace Go.Proofs.YtcmcmmedcodmpaaGreatDoor.Q42known
open Go Go.RowKit Go.Proofs.YtcmcmmedcodmpaaGreatDoor.Ev Go.Proofs.YtcmcmmedcodmpaaGreatDoor.Ev.Sh
set_option maxRecDepth 100000
def b188l : List Value := ([t, u6 0, p 13850 0, p 13868 0] ++ r 6 (pn) ([.map (some 13830), .map (some 13831)]))
def b188 : Blk := .cells 230 b188l
def b189l : List Value := [i6 1, s 13880 0 257 257, s 13882 0 256 256]
def b189 : Blk := .cells 300 b189l
def b190l : List Value := [p 13884 0, u6 0, u6 0, u6 0, u6 0, i6 0]
def b190 : Blk := .cells 296 b190l
def w245 : T4 Blk := N (N L (V b180) L (V b181)) (N L (V b18) (V b10) (V b10)) (N (V b188) L L L) L
def x14593 : Tr Blk := ⟨w231, w223, N (N L w213 w226 (N w232 (N w234 w240 (N (N w245 w242 w244 L) L L L) L) L L)) L L L⟩
def w246 : T4 Blk := N L L (N (V b20) L (V b21) L) (N (V b189) L (V b190) L)
def y14593 : Tr Blk := ⟨w231, w223, N (N L w213 w226 (N w232 (N w234 w240 (N (N w245 w242 w244 w246) L L L) L) L L)) L L L⟩
def e14593 : Fact := .st 270 [] x14593 13876 (p 13886 0) y14593 13887
theorem s14593 : Ev.stOK [] [(0, [.int .u8 0, .int .u8 1, .int .u8 56, .int .u8 2, .int .u8 57, .int .u8 49, .int .u8 28, .int .u8 3, .int .u8 61, .int .u8 58, .int .u8 42, .int .u8 50, .int .u8 38, .int .u8 29, .int .u8 17, .int .u8 4, .int .u8 62, .int .u8 47, .int .u8 59, .int .u8 36, .int .u8 45, .int .u8 43, .int .u8 51, .int .u8 22, .int .u8 53, .int .u8 39, .int .u8 33, .int .u8 30, .int .u8 24, .int .u8 18, .int .u8 12, .int .u8 5, .int .u8 63, .int .u8 55, .int .u8 48, .int .u8 27, .int .u8 60, .int .u8 41, .int .u8 37, .int .u8 16, .int .u8 46, .int .u8 35, .int .u8 44, .int .u8 21, .int .u8 52, .int .u8 32, .int .u8 23, .int .u8 11, .int .u8 54, .int .u8 26, .int .u8 40, .int .u8 15, .int .u8 34, .int .u8 20, .int .u8 31, .int .u8 10, .int .u8 25, .int .u8 14, .int .u8 19, .int .u8 9, .int .u8 13, .int .u8 8, .int .u8 7, .int .u8 6])] Tryz.prog 5000 60 270 [] x14593 13876 (p 13886 0) y14593 = true := by kernel_rfl
theorem h14593 {σ : Nat → Value} {T : List Fact} (hb : ∀ t, isBld t T = isBld t []) : @Fact.Holds ⟨T, [(0, [.int .u8 0, .int .u8 1, .int .u8 56, .int .u8 2, .int .u8 57, .int .u8 49, .int .u8 28, .int .u8 3, .int .u8 61, .int .u8 58, .int .u8 42, .int .u8 50, .int .u8 38, .int .u8 29, .int .u8 17, .int .u8 4, .int .u8 62, .int .u8 47, .int .u8 59, .int .u8 36, .int .u8 45, .int .u8 43, .int .u8 51, .int .u8 22, .int .u8 53, .int .u8 39, .int .u8 33, .int .u8 30, .int .u8 24, .int .u8 18, .int .u8 12, .int .u8 5, .int .u8 63, .int .u8 55, .int .u8 48, .int .u8 27, .int .u8 60, .int .u8 41, .int .u8 37, .int .u8 16, .int .u8 46, .int .u8 35, .int .u8 44, .int .u8 21, .int .u8 52, .int .u8 32, .int .u8 23, .int .u8 11, .int .u8 54, .int .u8 26, .int .u8 40, .int .u8 15, .int .u8 34, .int .u8 20, .int .u8 31, .int .u8 10, .int .u8 25, .int .u8 14, .int .u8 19, .int .u8 9, .int .u8 13, .int .u8 8, .int .u8 7, .int .u8 6])]⟩ Tryz.prog σ e14593 :=
  Fact.stI s14593 (by kernel_rfl) (Ev.hnil) (fun t => (hb t).trans rfl)
def b191l : List Value := [t, u6 0, p 13850 0, p 13868 0, p 13886 0, pn, pn, pn, pn, pn, .map (some 13830), .map (some 13831)]
def b191 : Blk := .cells 230 b191l
def b192l : List Value := [i6 1, s 13898 0 257 257, s 13900 0 256 256]
def b192 : Blk := .cells 300 b192l
def b193l : List Value := [p 13902 0, u6 0, u6 0, u6 0, u6 0, i6 0]
def b193 : Blk := .cells 296 b193l
def w247 : T4 Blk := N (N (N L (V b180) L (V b181)) (N L (V b18) (V b10) (V b10)) (N (V b191) L L L) L) w242 w244 w246
def x15107 : Tr Blk := ⟨w231, w223, N (N L w213 w226 (N w232 (N w234 w240 (N w247 L L L) L) L L)) L L L⟩
def w248 : T4 Blk := N L L (N L L (V b20) L) (N (V b21) L (V b192) L)
def w249 : T4 Blk := N w248 (N (N (V b193) L L L) L L L) L L
def y15107 : Tr Blk := ⟨w231, w223, N (N L w213 w226 (N w232 (N w234 w240 (N w247 w249 L L) L) L L)) L L L⟩
def e15107 : Fact := .st 270 [] x15107 13894 (p 13904 0) y15107 13905
theorem s15107 : Ev.stOK [] [(0, [.int .u8 0, .int .u8 1, .int .u8 56, .int .u8 2, .int .u8 57, .int .u8 49, .int .u8 28, .int .u8 3, .int .u8 61, .int .u8 58, .int .u8 42, .int .u8 50, .int .u8 38, .int .u8 29, .int .u8 17, .int .u8 4, .int .u8 62, .int .u8 47, .int .u8 59, .int .u8 36, .int .u8 45, .int .u8 43, .int .u8 51, .int .u8 22, .int .u8 53, .int .u8 39, .int .u8 33, .int .u8 30, .int .u8 24, .int .u8 18, .int .u8 12, .int .u8 5, .int .u8 63, .int .u8 55, .int .u8 48, .int .u8 27, .int .u8 60, .int .u8 41, .int .u8 37, .int .u8 16, .int .u8 46, .int .u8 35, .int .u8 44, .int .u8 21, .int .u8 52, .int .u8 32, .int .u8 23, .int .u8 11, .int .u8 54, .int .u8 26, .int .u8 40, .int .u8 15, .int .u8 34, .int .u8 20, .int .u8 31, .int .u8 10, .int .u8 25, .int .u8 14, .int .u8 19, .int .u8 9, .int .u8 13, .int .u8 8, .int .u8 7, .int .u8 6])] Tryz.prog 5000 60 270 [] x15107 13894 (p 13904 0) y15107 = true := by kernel_rfl
theorem h15107 {σ : Nat → Value} {T : List Fact} (hb : ∀ t, isBld t T = isBld t []) : @Fact.Holds ⟨T, [(0, [.int .u8 0, .int .u8 1, .int .u8 56, .int .u8 2, .int .u8 57, .int .u8 49, .int .u8 28, .int .u8 3, .int .u8 61, .int .u8 58, .int .u8 42, .int .u8 50, .int .u8 38, .int .u8 29, .int .u8 17, .int .u8 4, .int .u8 62, .int .u8 47, .int .u8 59, .int .u8 36, .int .u8 45, .int .u8 43, .int .u8 51, .int .u8 22, .int .u8 53, .int .u8 39, .int .u8 33, .int .u8 30, .int .u8 24, .int .u8 18, .int .u8 12, .int .u8 5, .int .u8 63, .int .u8 55, .int .u8 48, .int .u8 27, .int .u8 60, .int .u8 41, .int .u8 37, .int .u8 16, .int .u8 46, .int .u8 35, .int .u8 44, .int .u8 21, .int .u8 52, .int .u8 32, .int .u8 23, .int .u8 11, .int .u8 54, .int .u8 26, .int .u8 40, .int .u8 15, .int .u8 34, .int .u8 20, .int .u8 31, .int .u8 10, .int .u8 25, .int .u8 14, .int .u8 19, .int .u8 9, .int .u8 13, .int .u8 8, .int .u8 7, .int .u8 6])]⟩ Tryz.prog σ e15107 :=
  Fact.stI s15107 (by kernel_rfl) (Ev.hnil) (fun t => (hb t).trans rfl)
end Go.Proofs.YtcmcmmedcodmpaaGreatDoor.Q42known
