/-
  The examples of a chapter, part 20: calls that are evaluated from a heap to a heap.
-/
import Derived.Test.YtcmcmmedcodmpaaGreatDoorQ42knownp19
namespace Go.Proofs.YtcmcmmedcodmpaaGreatDoor.Q42known
open Go Go.RowKit Go.Proofs.YtcmcmmedcodmpaaGreatDoor.Ev Go.Proofs.YtcmcmmedcodmpaaGreatDoor.Ev.Sh
set_option maxRecDepth 100000
def b223l : List Value := ([t, u6 0, p 14073 0, p 14091 0] ++ r 6 (pn) ([.map (some 14053), .map (some 14054)]))
def b223 : Blk := .cells 230 b223l
def b224l : List Value := [i6 1, s 14103 0 257 257, s 14105 0 256 256]
def b224 : Blk := .cells 300 b224l
def b225l : List Value := [p 14107 0, u6 0, u6 0, u6 0, u6 0, i6 0]
def b225 : Blk := .cells 296 b225l
def w270 : T4 Blk := N w258 w254 w262 (N w263 w264 (N (N (V b215) L (V b216) L) (N (V b18) (V b10) (V b10) (V b223)) L L) w266)
def x18733 : Tr Blk := ⟨w231, w223, N (N L w213 w226 (N w232 (N w234 w259 w270 w269) L L)) L L L⟩
def w271 : T4 Blk := N L (N L L L (V b20)) (N L (V b21) L (V b224)) (N L (V b225) L L)
def w272 : T4 Blk := N (N w268 w271 L L) L L L
def y18733 : Tr Blk := ⟨w231, w223, N (N L w213 w226 (N w232 (N w234 w259 w270 w272) L L)) L L L⟩
def e18733 : Fact := .st 270 [] x18733 14099 (p 14109 0) y18733 14110
theorem s18733 : Ev.stOK [] [(0, [.int .u8 0, .int .u8 1, .int .u8 56, .int .u8 2, .int .u8 57, .int .u8 49, .int .u8 28, .int .u8 3, .int .u8 61, .int .u8 58, .int .u8 42, .int .u8 50, .int .u8 38, .int .u8 29, .int .u8 17, .int .u8 4, .int .u8 62, .int .u8 47, .int .u8 59, .int .u8 36, .int .u8 45, .int .u8 43, .int .u8 51, .int .u8 22, .int .u8 53, .int .u8 39, .int .u8 33, .int .u8 30, .int .u8 24, .int .u8 18, .int .u8 12, .int .u8 5, .int .u8 63, .int .u8 55, .int .u8 48, .int .u8 27, .int .u8 60, .int .u8 41, .int .u8 37, .int .u8 16, .int .u8 46, .int .u8 35, .int .u8 44, .int .u8 21, .int .u8 52, .int .u8 32, .int .u8 23, .int .u8 11, .int .u8 54, .int .u8 26, .int .u8 40, .int .u8 15, .int .u8 34, .int .u8 20, .int .u8 31, .int .u8 10, .int .u8 25, .int .u8 14, .int .u8 19, .int .u8 9, .int .u8 13, .int .u8 8, .int .u8 7, .int .u8 6])] Tryz.prog 5000 60 270 [] x18733 14099 (p 14109 0) y18733 = true := by kernel_rfl
theorem h18733 {σ : Nat → Value} {T : List Fact} (hb : ∀ t, isBld t T = isBld t []) : @Fact.Holds ⟨T, [(0, [.int .u8 0, .int .u8 1, .int .u8 56, .int .u8 2, .int .u8 57, .int .u8 49, .int .u8 28, .int .u8 3, .int .u8 61, .int .u8 58, .int .u8 42, .int .u8 50, .int .u8 38, .int .u8 29, .int .u8 17, .int .u8 4, .int .u8 62, .int .u8 47, .int .u8 59, .int .u8 36, .int .u8 45, .int .u8 43, .int .u8 51, .int .u8 22, .int .u8 53, .int .u8 39, .int .u8 33, .int .u8 30, .int .u8 24, .int .u8 18, .int .u8 12, .int .u8 5, .int .u8 63, .int .u8 55, .int .u8 48, .int .u8 27, .int .u8 60, .int .u8 41, .int .u8 37, .int .u8 16, .int .u8 46, .int .u8 35, .int .u8 44, .int .u8 21, .int .u8 52, .int .u8 32, .int .u8 23, .int .u8 11, .int .u8 54, .int .u8 26, .int .u8 40, .int .u8 15, .int .u8 34, .int .u8 20, .int .u8 31, .int .u8 10, .int .u8 25, .int .u8 14, .int .u8 19, .int .u8 9, .int .u8 13, .int .u8 8, .int .u8 7, .int .u8 6])]⟩ Tryz.prog σ e18733 :=
  Fact.stI s18733 (by kernel_rfl) (Ev.hnil) (fun t => (hb t).trans rfl)
def b226l : List Value := [t, u6 0, p 14073 0, p 14091 0, p 14109 0, pn, pn, pn, pn, pn, .map (some 14053), .map (some 14054)]
def b226 : Blk := .cells 230 b226l
def b227l : List Value := [i6 1, s 14121 0 257 257, s 14123 0 256 256]
def b227 : Blk := .cells 300 b227l
def b228l : List Value := [p 14125 0, u6 0, u6 0, u6 0, u6 0, i6 0]
def b228 : Blk := .cells 296 b228l
def w273 : T4 Blk := N w258 w254 w262 (N w263 w264 (N (N (V b215) L (V b216) L) (N (V b18) (V b10) (V b10) (V b226)) L L) w266)
def x19247 : Tr Blk := ⟨w231, w223, N (N L w213 w226 (N w232 (N w234 w259 w273 w272) L L)) L L L⟩
def w274 : T4 Blk := N L L (N L (V b20) L (V b21)) (N L (V b227) L (V b228))
def w275 : T4 Blk := N (N w268 w271 w274 L) L L L
def y19247 : Tr Blk := ⟨w231, w223, N (N L w213 w226 (N w232 (N w234 w259 w273 w275) L L)) L L L⟩
def e19247 : Fact := .st 270 [] x19247 14117 (p 14127 0) y19247 14128
theorem s19247 : Ev.stOK [] [(0, [.int .u8 0, .int .u8 1, .int .u8 56, .int .u8 2, .int .u8 57, .int .u8 49, .int .u8 28, .int .u8 3, .int .u8 61, .int .u8 58, .int .u8 42, .int .u8 50, .int .u8 38, .int .u8 29, .int .u8 17, .int .u8 4, .int .u8 62, .int .u8 47, .int .u8 59, .int .u8 36, .int .u8 45, .int .u8 43, .int .u8 51, .int .u8 22, .int .u8 53, .int .u8 39, .int .u8 33, .int .u8 30, .int .u8 24, .int .u8 18, .int .u8 12, .int .u8 5, .int .u8 63, .int .u8 55, .int .u8 48, .int .u8 27, .int .u8 60, .int .u8 41, .int .u8 37, .int .u8 16, .int .u8 46, .int .u8 35, .int .u8 44, .int .u8 21, .int .u8 52, .int .u8 32, .int .u8 23, .int .u8 11, .int .u8 54, .int .u8 26, .int .u8 40, .int .u8 15, .int .u8 34, .int .u8 20, .int .u8 31, .int .u8 10, .int .u8 25, .int .u8 14, .int .u8 19, .int .u8 9, .int .u8 13, .int .u8 8, .int .u8 7, .int .u8 6])] Tryz.prog 5000 60 270 [] x19247 14117 (p 14127 0) y19247 = true := by kernel_rfl
theorem h19247 {σ : Nat → Value} {T : List Fact} (hb : ∀ t, isBld t T = isBld t []) : @Fact.Holds ⟨T, [(0, [.int .u8 0, .int .u8 1, .int .u8 56, .int .u8 2, .int .u8 57, .int .u8 49, .int .u8 28, .int .u8 3, .int .u8 61, .int .u8 58, .int .u8 42, .int .u8 50, .int .u8 38, .int .u8 29, .int .u8 17, .int .u8 4, .int .u8 62, .int .u8 47, .int .u8 59, .int .u8 36, .int .u8 45, .int .u8 43, .int .u8 51, .int .u8 22, .int .u8 53, .int .u8 39, .int .u8 33, .int .u8 30, .int .u8 24, .int .u8 18, .int .u8 12, .int .u8 5, .int .u8 63, .int .u8 55, .int .u8 48, .int .u8 27, .int .u8 60, .int .u8 41, .int .u8 37, .int .u8 16, .int .u8 46, .int .u8 35, .int .u8 44, .int .u8 21, .int .u8 52, .int .u8 32, .int .u8 23, .int .u8 11, .int .u8 54, .int .u8 26, .int .u8 40, .int .u8 15, .int .u8 34, .int .u8 20, .int .u8 31, .int .u8 10, .int .u8 25, .int .u8 14, .int .u8 19, .int .u8 9, .int .u8 13, .int .u8 8, .int .u8 7, .int .u8 6])]⟩ Tryz.prog σ e19247 :=
  Fact.stI s19247 (by kernel_rfl) (Ev.hnil) (fun t => (hb t).trans rfl)
end Go.Proofs.YtcmcmmedcodmpaaGreatDoor.Q42known
