/-
  The examples of a chapter, part 5: calls that are evaluated from a heap to a heap.
-/
import Derived.Test.YtcmcmmedcodmpaaGreatDoorQ42knownp4
namespace Go.Proofs.YtcmcmmedcodmpaaGreatDoor.Q42known
open Go Go.RowKit Go.Proofs.YtcmcmmedcodmpaaGreatDoor.Ev Go.Proofs.YtcmcmmedcodmpaaGreatDoor.Ev.Sh
set_option maxRecDepth 100000
def b48l : List Value := [t, t, p 51 0, pn, sn]
def b48 : Blk := .cells 35 b48l
def b49l : List Value := [i6 1, s 237 0 2 2, s 239 0 1 1]
def b49 : Blk := .cells 300 b49l
def b50l : List Value := [p 241 0]
def b50 : Blk := .cells 237 b50l
def b51l : List Value := [i6 1, s 248 0 2 2, s 250 0 1 1]
def b51 : Blk := .cells 300 b51l
def b52l : List Value := [p 252 0]
def b52 : Blk := .cells 237 b52l
def b53l : List Value := [t, .int .i64 (.negSucc 0), p 243 0, p 254 0, .map (some 255), i6 0, i6 0]
def b53 : Blk := .cells 172 b53l
def b54l : List Value := [i6 2, i6 1000, i6 0, i6 0, i6 0, i6 0]
def b54 : Blk := .cells 178 b54l
def b55l : List Value := [s 280 0 1 1, i6 0, i6 0]
def b55 : Blk := .cells 225 b55l
def b56l : List Value := [p 299 0, u6 0, f, p 281 0]
def b56 : Blk := .cells 154 b56l
def b57l : List Value := [p 295 0]
def b57 : Blk := .cells 156 b57l
def b58l : List Value := ([t, u6 0] ++ r 8 (pn) ([.map (some 300), .map (some 301)]))
def b58 : Blk := .cells 230 b58l
def b59l : List Value := [i6 1, s 314 0 257 257, s 316 0 256 256]
def b59 : Blk := .cells 300 b59l
def b60l : List Value := [p 318 0, u6 0, u6 0, u6 0, u6 0, i6 0]
def b60 : Blk := .cells 296 b60l
def w26 : T4 Blk := N (N L (V b49) L (V b50)) L (N (V b4) L (V b5) L) (N (V b51) L (V b52) (V b10))
def w27 : T4 Blk := N (N (N (N (V b0) (V b1) (V b2) (V b0)) (N (V b48) D0 D0 D0) (N D0 D0 L L) (N L L (V b4) L)) w0 w1 w23) w24 w20 (N w22 w25 (N (N (V b10) (V b10) (V b46) (V b47)) (N (V b2) (V b2) (V b2) D0) (N D0 L L L) (N L (V b4) L (V b5))) w26)
def w28 : T4 Blk := N (N (V b53) (V b54) L L) L L L
def w29 : T4 Blk := N (N L L D0 L) (N L (V b13) D0 D0) (N (V b14) (V b55) L L) L
def w30 : T4 Blk := N L (N L L L (V b56)) (N L (V b57) L (V b18)) (N (V b10) (V b10) (V b58) L)
def x4170 : Tr Blk := ⟨w27, N (N L (N (N w28 w29 w30 L) L L L) L L) L L L, L⟩
def w31 : T4 Blk := N L L (N L L (V b20) L) (N (V b21) L (V b59) L)
def w32 : T4 Blk := N (N (N (V b60) L L L) L L L) L L L
def y4170 : Tr Blk := ⟨w27, N (N L (N (N w28 w29 w30 w31) w32 L L) L L) L L L, L⟩
def e4170 : Fact := .st 270 [] x4170 310 (p 320 0) y4170 321
theorem s4170 : Ev.stOK [] [(0, [.int .u8 0, .int .u8 1, .int .u8 56, .int .u8 2, .int .u8 57, .int .u8 49, .int .u8 28, .int .u8 3, .int .u8 61, .int .u8 58, .int .u8 42, .int .u8 50, .int .u8 38, .int .u8 29, .int .u8 17, .int .u8 4, .int .u8 62, .int .u8 47, .int .u8 59, .int .u8 36, .int .u8 45, .int .u8 43, .int .u8 51, .int .u8 22, .int .u8 53, .int .u8 39, .int .u8 33, .int .u8 30, .int .u8 24, .int .u8 18, .int .u8 12, .int .u8 5, .int .u8 63, .int .u8 55, .int .u8 48, .int .u8 27, .int .u8 60, .int .u8 41, .int .u8 37, .int .u8 16, .int .u8 46, .int .u8 35, .int .u8 44, .int .u8 21, .int .u8 52, .int .u8 32, .int .u8 23, .int .u8 11, .int .u8 54, .int .u8 26, .int .u8 40, .int .u8 15, .int .u8 34, .int .u8 20, .int .u8 31, .int .u8 10, .int .u8 25, .int .u8 14, .int .u8 19, .int .u8 9, .int .u8 13, .int .u8 8, .int .u8 7, .int .u8 6])] Tryz.prog 5000 60 270 [] x4170 310 (p 320 0) y4170 = true := by kernel_rfl
theorem h4170 {σ : Nat → Value} {T : List Fact} (hb : ∀ t, isBld t T = isBld t []) : @Fact.Holds ⟨T, [(0, [.int .u8 0, .int .u8 1, .int .u8 56, .int .u8 2, .int .u8 57, .int .u8 49, .int .u8 28, .int .u8 3, .int .u8 61, .int .u8 58, .int .u8 42, .int .u8 50, .int .u8 38, .int .u8 29, .int .u8 17, .int .u8 4, .int .u8 62, .int .u8 47, .int .u8 59, .int .u8 36, .int .u8 45, .int .u8 43, .int .u8 51, .int .u8 22, .int .u8 53, .int .u8 39, .int .u8 33, .int .u8 30, .int .u8 24, .int .u8 18, .int .u8 12, .int .u8 5, .int .u8 63, .int .u8 55, .int .u8 48, .int .u8 27, .int .u8 60, .int .u8 41, .int .u8 37, .int .u8 16, .int .u8 46, .int .u8 35, .int .u8 44, .int .u8 21, .int .u8 52, .int .u8 32, .int .u8 23, .int .u8 11, .int .u8 54, .int .u8 26, .int .u8 40, .int .u8 15, .int .u8 34, .int .u8 20, .int .u8 31, .int .u8 10, .int .u8 25, .int .u8 14, .int .u8 19, .int .u8 9, .int .u8 13, .int .u8 8, .int .u8 7, .int .u8 6])]⟩ Tryz.prog σ e4170 :=
  Fact.stI s4170 (by kernel_rfl) (Ev.hnil) (fun t => (hb t).trans rfl)
def b61l : List Value := ([t, u6 0, p 320 0] ++ r 7 (pn) ([.map (some 300), .map (some 301)]))
def b61 : Blk := .cells 230 b61l
def b62l : List Value := [i6 1, s 332 0 257 257, s 334 0 256 256]
def b62 : Blk := .cells 300 b62l
def b63l : List Value := [p 336 0, u6 0, u6 0, u6 0, u6 0, i6 0]
def b63 : Blk := .cells 296 b63l
def w33 : T4 Blk := N w28 w29 (N L (N L L L (V b56)) (N L (V b57) L (V b18)) (N (V b10) (V b10) (V b61) L)) w31
def x4684 : Tr Blk := ⟨w27, N (N L (N w33 w32 L L) L L) L L L, L⟩
def w34 : T4 Blk := N (N (V b60) L L L) L L (N (V b20) L (V b21) L)
def w35 : T4 Blk := N w34 (N (N (V b62) L (V b63) L) L L L) L L
def y4684 : Tr Blk := ⟨w27, N (N L (N w33 w35 L L) L L) L L L, L⟩
def e4684 : Fact := .st 270 [] x4684 328 (p 338 0) y4684 339
theorem s4684 : Ev.stOK [] [(0, [.int .u8 0, .int .u8 1, .int .u8 56, .int .u8 2, .int .u8 57, .int .u8 49, .int .u8 28, .int .u8 3, .int .u8 61, .int .u8 58, .int .u8 42, .int .u8 50, .int .u8 38, .int .u8 29, .int .u8 17, .int .u8 4, .int .u8 62, .int .u8 47, .int .u8 59, .int .u8 36, .int .u8 45, .int .u8 43, .int .u8 51, .int .u8 22, .int .u8 53, .int .u8 39, .int .u8 33, .int .u8 30, .int .u8 24, .int .u8 18, .int .u8 12, .int .u8 5, .int .u8 63, .int .u8 55, .int .u8 48, .int .u8 27, .int .u8 60, .int .u8 41, .int .u8 37, .int .u8 16, .int .u8 46, .int .u8 35, .int .u8 44, .int .u8 21, .int .u8 52, .int .u8 32, .int .u8 23, .int .u8 11, .int .u8 54, .int .u8 26, .int .u8 40, .int .u8 15, .int .u8 34, .int .u8 20, .int .u8 31, .int .u8 10, .int .u8 25, .int .u8 14, .int .u8 19, .int .u8 9, .int .u8 13, .int .u8 8, .int .u8 7, .int .u8 6])] Tryz.prog 5000 60 270 [] x4684 328 (p 338 0) y4684 = true := by kernel_rfl
theorem h4684 {σ : Nat → Value} {T : List Fact} (hb : ∀ t, isBld t T = isBld t []) : @Fact.Holds ⟨T, [(0, [.int .u8 0, .int .u8 1, .int .u8 56, .int .u8 2, .int .u8 57, .int .u8 49, .int .u8 28, .int .u8 3, .int .u8 61, .int .u8 58, .int .u8 42, .int .u8 50, .int .u8 38, .int .u8 29, .int .u8 17, .int .u8 4, .int .u8 62, .int .u8 47, .int .u8 59, .int .u8 36, .int .u8 45, .int .u8 43, .int .u8 51, .int .u8 22, .int .u8 53, .int .u8 39, .int .u8 33, .int .u8 30, .int .u8 24, .int .u8 18, .int .u8 12, .int .u8 5, .int .u8 63, .int .u8 55, .int .u8 48, .int .u8 27, .int .u8 60, .int .u8 41, .int .u8 37, .int .u8 16, .int .u8 46, .int .u8 35, .int .u8 44, .int .u8 21, .int .u8 52, .int .u8 32, .int .u8 23, .int .u8 11, .int .u8 54, .int .u8 26, .int .u8 40, .int .u8 15, .int .u8 34, .int .u8 20, .int .u8 31, .int .u8 10, .int .u8 25, .int .u8 14, .int .u8 19, .int .u8 9, .int .u8 13, .int .u8 8, .int .u8 7, .int .u8 6])]⟩ Tryz.prog σ e4684 :=
  Fact.stI s4684 (by kernel_rfl) (Ev.hnil) (fun t => (hb t).trans rfl)
end Go.Proofs.YtcmcmmedcodmpaaGreatDoor.Q42known
