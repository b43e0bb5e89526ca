/-
  The examples of a chapter, part 19: calls that are evaluated from a heap to a heap.
-/
import Derived.Test.YtcmcmmedcodmpaaGreatDoorQ42knownp18
namespace Go.Proofs.YtcmcmmedcodmpaaGreatDoor.Q42known
open Go Go.RowKit Go.Proofs.YtcmcmmedcodmpaaGreatDoor.Ev Go.Proofs.YtcmcmmedcodmpaaGreatDoor.Ev.Sh
set_option maxRecDepth 100000
def b208l : List Value := [f, f, p 13804 0, pn, sn]
def b208 : Blk := .cells 35 b208l
def b209l : List Value := [i6 1, s 13990 0 2 2, s 13992 0 1 1]
def b209 : Blk := .cells 300 b209l
def b210l : List Value := [p 13994 0]
def b210 : Blk := .cells 237 b210l
def b211l : List Value := [i6 1, s 14001 0 2 2, s 14003 0 1 1]
def b211 : Blk := .cells 300 b211l
def b212l : List Value := [p 14005 0]
def b212 : Blk := .cells 237 b212l
def b213l : List Value := [t, .int .i64 (.negSucc 0), p 13996 0, p 14007 0, .map (some 14008), i6 0, i6 0]
def b213 : Blk := .cells 172 b213l
def b214l : List Value := [s 14033 0 1 1, i6 0, i6 0]
def b214 : Blk := .cells 225 b214l
def b215l : List Value := [p 14052 0, u6 0, f, p 14034 0]
def b215 : Blk := .cells 154 b215l
def b216l : List Value := [p 14048 0]
def b216 : Blk := .cells 156 b216l
def b217l : List Value := ([t, u6 0] ++ r 8 (pn) ([.map (some 14053), .map (some 14054)]))
def b217 : Blk := .cells 230 b217l
def b218l : List Value := [i6 1, s 14067 0 257 257, s 14069 0 256 256]
def b218 : Blk := .cells 300 b218l
def b219l : List Value := [p 14071 0, u6 0, u6 0, u6 0, u6 0, i6 0]
def b219 : Blk := .cells 296 b219l
def w259 : T4 Blk := N w236 w237 (N (N (N L L D0 L) L L L) (N L (N D0 L L L) L L) (N (N L D0 L L) L L L) (N L (N L L L D0) (N (V b170) (V b172) (V b1) (V b2)) (N (V b172) (V b208) D0 D0))) w257
def w260 : T4 Blk := N (N D0 D0 L L) (N L L (V b4) L) (N (V b5) L (V b209) L) (N (V b210) L L L)
def w261 : T4 Blk := N (N L (V b4) L (V b5)) (N L (V b211) L (V b212)) (N (V b10) (V b213) (V b54) L) L
def w262 : T4 Blk := N w256 (N (N L L (V b20) L) (N (V b21) L (V b205) L) (N (V b206) (V b10) (V b10) (V b207)) (N (V b47) (V b2) (V b2) (V b2))) w260 w261
def w263 : T4 Blk := N L L (N L L L D0) (N L L (V b13) D0)
def w264 : T4 Blk := N (N D0 (V b14) (V b214) L) L L L
def w265 : T4 Blk := N (N (V b215) L (V b216) L) (N (V b18) (V b10) (V b10) (V b217)) L L
def x17705 : Tr Blk := ⟨w231, w223, N (N L w213 w226 (N w232 (N w234 w259 (N w258 w254 w262 (N w263 w264 w265 L)) L) L L)) L L L⟩
def w266 : T4 Blk := N (N L L L (V b20)) (N L (V b21) L (V b218)) (N L (V b219) L L) L
def y17705 : Tr Blk := ⟨w231, w223, N (N L w213 w226 (N w232 (N w234 w259 (N w258 w254 w262 (N w263 w264 w265 w266)) L) L L)) L L L⟩
def e17705 : Fact := .st 270 [] x17705 14063 (p 14073 0) y17705 14074
theorem s17705 : Ev.stOK [] [(0, [.int .u8 0, .int .u8 1, .int .u8 56, .int .u8 2, .int .u8 57, .int .u8 49, .int .u8 28, .int .u8 3, .int .u8 61, .int .u8 58, .int .u8 42, .int .u8 50, .int .u8 38, .int .u8 29, .int .u8 17, .int .u8 4, .int .u8 62, .int .u8 47, .int .u8 59, .int .u8 36, .int .u8 45, .int .u8 43, .int .u8 51, .int .u8 22, .int .u8 53, .int .u8 39, .int .u8 33, .int .u8 30, .int .u8 24, .int .u8 18, .int .u8 12, .int .u8 5, .int .u8 63, .int .u8 55, .int .u8 48, .int .u8 27, .int .u8 60, .int .u8 41, .int .u8 37, .int .u8 16, .int .u8 46, .int .u8 35, .int .u8 44, .int .u8 21, .int .u8 52, .int .u8 32, .int .u8 23, .int .u8 11, .int .u8 54, .int .u8 26, .int .u8 40, .int .u8 15, .int .u8 34, .int .u8 20, .int .u8 31, .int .u8 10, .int .u8 25, .int .u8 14, .int .u8 19, .int .u8 9, .int .u8 13, .int .u8 8, .int .u8 7, .int .u8 6])] Tryz.prog 5000 60 270 [] x17705 14063 (p 14073 0) y17705 = true := by kernel_rfl
theorem h17705 {σ : Nat → Value} {T : List Fact} (hb : ∀ t, isBld t T = isBld t []) : @Fact.Holds ⟨T, [(0, [.int .u8 0, .int .u8 1, .int .u8 56, .int .u8 2, .int .u8 57, .int .u8 49, .int .u8 28, .int .u8 3, .int .u8 61, .int .u8 58, .int .u8 42, .int .u8 50, .int .u8 38, .int .u8 29, .int .u8 17, .int .u8 4, .int .u8 62, .int .u8 47, .int .u8 59, .int .u8 36, .int .u8 45, .int .u8 43, .int .u8 51, .int .u8 22, .int .u8 53, .int .u8 39, .int .u8 33, .int .u8 30, .int .u8 24, .int .u8 18, .int .u8 12, .int .u8 5, .int .u8 63, .int .u8 55, .int .u8 48, .int .u8 27, .int .u8 60, .int .u8 41, .int .u8 37, .int .u8 16, .int .u8 46, .int .u8 35, .int .u8 44, .int .u8 21, .int .u8 52, .int .u8 32, .int .u8 23, .int .u8 11, .int .u8 54, .int .u8 26, .int .u8 40, .int .u8 15, .int .u8 34, .int .u8 20, .int .u8 31, .int .u8 10, .int .u8 25, .int .u8 14, .int .u8 19, .int .u8 9, .int .u8 13, .int .u8 8, .int .u8 7, .int .u8 6])]⟩ Tryz.prog σ e17705 :=
  Fact.stI s17705 (by kernel_rfl) (Ev.hnil) (fun t => (hb t).trans rfl)
def b220l : List Value := ([t, u6 0, p 14073 0] ++ r 7 (pn) ([.map (some 14053), .map (some 14054)]))
def b220 : Blk := .cells 230 b220l
def b221l : List Value := [i6 1, s 14085 0 257 257, s 14087 0 256 256]
def b221 : Blk := .cells 300 b221l
def b222l : List Value := [p 14089 0, u6 0, u6 0, u6 0, u6 0, i6 0]
def b222 : Blk := .cells 296 b222l
def w267 : T4 Blk := N w258 w254 w262 (N w263 w264 (N (N (V b215) L (V b216) L) (N (V b18) (V b10) (V b10) (V b220)) L L) w266)
def x18219 : Tr Blk := ⟨w231, w223, N (N L w213 w226 (N w232 (N w234 w259 w267 L) L L)) L L L⟩
def w268 : T4 Blk := N L (N L (V b20) L (V b21)) (N L (V b221) L (V b222)) L
def w269 : T4 Blk := N (N w268 L L L) L L L
def y18219 : Tr Blk := ⟨w231, w223, N (N L w213 w226 (N w232 (N w234 w259 w267 w269) L L)) L L L⟩
def e18219 : Fact := .st 270 [] x18219 14081 (p 14091 0) y18219 14092
theorem s18219 : Ev.stOK [] [(0, [.int .u8 0, .int .u8 1, .int .u8 56, .int .u8 2, .int .u8 57, .int .u8 49, .int .u8 28, .int .u8 3, .int .u8 61, .int .u8 58, .int .u8 42, .int .u8 50, .int .u8 38, .int .u8 29, .int .u8 17, .int .u8 4, .int .u8 62, .int .u8 47, .int .u8 59, .int .u8 36, .int .u8 45, .int .u8 43, .int .u8 51, .int .u8 22, .int .u8 53, .int .u8 39, .int .u8 33, .int .u8 30, .int .u8 24, .int .u8 18, .int .u8 12, .int .u8 5, .int .u8 63, .int .u8 55, .int .u8 48, .int .u8 27, .int .u8 60, .int .u8 41, .int .u8 37, .int .u8 16, .int .u8 46, .int .u8 35, .int .u8 44, .int .u8 21, .int .u8 52, .int .u8 32, .int .u8 23, .int .u8 11, .int .u8 54, .int .u8 26, .int .u8 40, .int .u8 15, .int .u8 34, .int .u8 20, .int .u8 31, .int .u8 10, .int .u8 25, .int .u8 14, .int .u8 19, .int .u8 9, .int .u8 13, .int .u8 8, .int .u8 7, .int .u8 6])] Tryz.prog 5000 60 270 [] x18219 14081 (p 14091 0) y18219 = true := by kernel_rfl
theorem h18219 {σ : Nat → Value} {T : List Fact} (hb : ∀ t, isBld t T = isBld t []) : @Fact.Holds ⟨T, [(0, [.int .u8 0, .int .u8 1, .int .u8 56, .int .u8 2, .int .u8 57, .int .u8 49, .int .u8 28, .int .u8 3, .int .u8 61, .int .u8 58, .int .u8 42, .int .u8 50, .int .u8 38, .int .u8 29, .int .u8 17, .int .u8 4, .int .u8 62, .int .u8 47, .int .u8 59, .int .u8 36, .int .u8 45, .int .u8 43, .int .u8 51, .int .u8 22, .int .u8 53, .int .u8 39, .int .u8 33, .int .u8 30, .int .u8 24, .int .u8 18, .int .u8 12, .int .u8 5, .int .u8 63, .int .u8 55, .int .u8 48, .int .u8 27, .int .u8 60, .int .u8 41, .int .u8 37, .int .u8 16, .int .u8 46, .int .u8 35, .int .u8 44, .int .u8 21, .int .u8 52, .int .u8 32, .int .u8 23, .int .u8 11, .int .u8 54, .int .u8 26, .int .u8 40, .int .u8 15, .int .u8 34, .int .u8 20, .int .u8 31, .int .u8 10, .int .u8 25, .int .u8 14, .int .u8 19, .int .u8 9, .int .u8 13, .int .u8 8, .int .u8 7, .int .u8 6])]⟩ Tryz.prog σ e18219 :=
  Fact.stI s18219 (by kernel_rfl) (Ev.hnil) (fun t => (hb t).trans rfl)
end Go.Proofs.YtcmcmmedcodmpaaGreatDoor.Q42known
