/-
  The examples of a chapter, part 21: calls that are evaluated from a heap to a heap.
-/
import Derived.Test.YtcmcmmedcodmpaaGreatDoorQ42knownp20
namespace Go.Proofs.YtcmcmmedcodmpaaGreatDoor.Q42known
open Go Go.RowKit Go.Proofs.YtcmcmmedcodmpaaGreatDoor.Ev Go.Proofs.YtcmcmmedcodmpaaGreatDoor.Ev.Sh
set_option maxRecDepth 100000
def b229l : List Value := [t, u6 0, p 14073 0, p 14091 0, p 14109 0, p 14127 0, pn, pn, pn, pn, .map (some 14053), .map (some 14054)]
def b229 : Blk := .cells 230 b229l
def b230l : List Value := [i6 1, s 14139 0 257 257, s 14141 0 256 256]
def b230 : Blk := .cells 300 b230l
def b231l : List Value := [p 14143 0, u6 0, u6 0, u6 0, u6 0, i6 0]
def b231 : Blk := .cells 296 b231l
def w276 : T4 Blk := N w258 w254 w262 (N w263 w264 (N (N (V b215) L (V b216) L) (N (V b18) (V b10) (V b10) (V b229)) L L) w266)
def x19761 : Tr Blk := ⟨w231, w223, N (N L w213 w226 (N w232 (N w234 w259 w276 w275) L L)) L L L⟩
def w277 : T4 Blk := N w268 w271 w274 (N L L (N L L L (V b20)) (N L (V b21) L (V b230)))
def w278 : T4 Blk := N w277 (N (N (N L (V b231) L L) L L L) L L L) L L
def y19761 : Tr Blk := ⟨w231, w223, N (N L w213 w226 (N w232 (N w234 w259 w276 w278) L L)) L L L⟩
def e19761 : Fact := .st 270 [] x19761 14135 (p 14145 0) y19761 14146
theorem s19761 : Ev.stOK [] [(0, [.int .u8 0, .int .u8 1, .int .u8 56, .int .u8 2, .int .u8 57, .int .u8 49, .int .u8 28, .int .u8 3, .int .u8 61, .int .u8 58, .int .u8 42, .int .u8 50, .int .u8 38, .int .u8 29, .int .u8 17, .int .u8 4, .int .u8 62, .int .u8 47, .int .u8 59, .int .u8 36, .int .u8 45, .int .u8 43, .int .u8 51, .int .u8 22, .int .u8 53, .int .u8 39, .int .u8 33, .int .u8 30, .int .u8 24, .int .u8 18, .int .u8 12, .int .u8 5, .int .u8 63, .int .u8 55, .int .u8 48, .int .u8 27, .int .u8 60, .int .u8 41, .int .u8 37, .int .u8 16, .int .u8 46, .int .u8 35, .int .u8 44, .int .u8 21, .int .u8 52, .int .u8 32, .int .u8 23, .int .u8 11, .int .u8 54, .int .u8 26, .int .u8 40, .int .u8 15, .int .u8 34, .int .u8 20, .int .u8 31, .int .u8 10, .int .u8 25, .int .u8 14, .int .u8 19, .int .u8 9, .int .u8 13, .int .u8 8, .int .u8 7, .int .u8 6])] Tryz.prog 5000 60 270 [] x19761 14135 (p 14145 0) y19761 = true := by kernel_rfl
theorem h19761 {σ : Nat → Value} {T : List Fact} (hb : ∀ t, isBld t T = isBld t []) : @Fact.Holds ⟨T, [(0, [.int .u8 0, .int .u8 1, .int .u8 56, .int .u8 2, .int .u8 57, .int .u8 49, .int .u8 28, .int .u8 3, .int .u8 61, .int .u8 58, .int .u8 42, .int .u8 50, .int .u8 38, .int .u8 29, .int .u8 17, .int .u8 4, .int .u8 62, .int .u8 47, .int .u8 59, .int .u8 36, .int .u8 45, .int .u8 43, .int .u8 51, .int .u8 22, .int .u8 53, .int .u8 39, .int .u8 33, .int .u8 30, .int .u8 24, .int .u8 18, .int .u8 12, .int .u8 5, .int .u8 63, .int .u8 55, .int .u8 48, .int .u8 27, .int .u8 60, .int .u8 41, .int .u8 37, .int .u8 16, .int .u8 46, .int .u8 35, .int .u8 44, .int .u8 21, .int .u8 52, .int .u8 32, .int .u8 23, .int .u8 11, .int .u8 54, .int .u8 26, .int .u8 40, .int .u8 15, .int .u8 34, .int .u8 20, .int .u8 31, .int .u8 10, .int .u8 25, .int .u8 14, .int .u8 19, .int .u8 9, .int .u8 13, .int .u8 8, .int .u8 7, .int .u8 6])]⟩ Tryz.prog σ e19761 :=
  Fact.stI s19761 (by kernel_rfl) (Ev.hnil) (fun t => (hb t).trans rfl)
def b232l : List Value := [t, u6 0, p 14073 0, p 14091 0, p 14109 0, p 14127 0, p 14145 0, pn, pn, pn, .map (some 14053), .map (some 14054)]
def b232 : Blk := .cells 230 b232l
def b233l : List Value := [i6 1, s 14157 0 257 257, s 14159 0 256 256]
def b233 : Blk := .cells 300 b233l
def b234l : List Value := [p 14161 0, u6 0, u6 0, u6 0, u6 0, i6 0]
def b234 : Blk := .cells 296 b234l
def w279 : T4 Blk := N w258 w254 w262 (N w263 w264 (N (N (V b215) L (V b216) L) (N (V b18) (V b10) (V b10) (V b232)) L L) w266)
def x20275 : Tr Blk := ⟨w231, w223, N (N L w213 w226 (N w232 (N w234 w259 w279 w278) L L)) L L L⟩
def w280 : T4 Blk := N (N L (V b231) L L) L L (N L (V b20) L (V b21))
def w281 : T4 Blk := N w277 (N w280 (N (N L (V b233) L (V b234)) L L L) L L) L L
def y20275 : Tr Blk := ⟨w231, w223, N (N L w213 w226 (N w232 (N w234 w259 w279 w281) L L)) L L L⟩
def e20275 : Fact := .st 270 [] x20275 14153 (p 14163 0) y20275 14164
theorem s20275 : Ev.stOK [] [(0, [.int .u8 0, .int .u8 1, .int .u8 56, .int .u8 2, .int .u8 57, .int .u8 49, .int .u8 28, .int .u8 3, .int .u8 61, .int .u8 58, .int .u8 42, .int .u8 50, .int .u8 38, .int .u8 29, .int .u8 17, .int .u8 4, .int .u8 62, .int .u8 47, .int .u8 59, .int .u8 36, .int .u8 45, .int .u8 43, .int .u8 51, .int .u8 22, .int .u8 53, .int .u8 39, .int .u8 33, .int .u8 30, .int .u8 24, .int .u8 18, .int .u8 12, .int .u8 5, .int .u8 63, .int .u8 55, .int .u8 48, .int .u8 27, .int .u8 60, .int .u8 41, .int .u8 37, .int .u8 16, .int .u8 46, .int .u8 35, .int .u8 44, .int .u8 21, .int .u8 52, .int .u8 32, .int .u8 23, .int .u8 11, .int .u8 54, .int .u8 26, .int .u8 40, .int .u8 15, .int .u8 34, .int .u8 20, .int .u8 31, .int .u8 10, .int .u8 25, .int .u8 14, .int .u8 19, .int .u8 9, .int .u8 13, .int .u8 8, .int .u8 7, .int .u8 6])] Tryz.prog 5000 60 270 [] x20275 14153 (p 14163 0) y20275 = true := by kernel_rfl
theorem h20275 {σ : Nat → Value} {T : List Fact} (hb : ∀ t, isBld t T = isBld t []) : @Fact.Holds ⟨T, [(0, [.int .u8 0, .int .u8 1, .int .u8 56, .int .u8 2, .int .u8 57, .int .u8 49, .int .u8 28, .int .u8 3, .int .u8 61, .int .u8 58, .int .u8 42, .int .u8 50, .int .u8 38, .int .u8 29, .int .u8 17, .int .u8 4, .int .u8 62, .int .u8 47, .int .u8 59, .int .u8 36, .int .u8 45, .int .u8 43, .int .u8 51, .int .u8 22, .int .u8 53, .int .u8 39, .int .u8 33, .int .u8 30, .int .u8 24, .int .u8 18, .int .u8 12, .int .u8 5, .int .u8 63, .int .u8 55, .int .u8 48, .int .u8 27, .int .u8 60, .int .u8 41, .int .u8 37, .int .u8 16, .int .u8 46, .int .u8 35, .int .u8 44, .int .u8 21, .int .u8 52, .int .u8 32, .int .u8 23, .int .u8 11, .int .u8 54, .int .u8 26, .int .u8 40, .int .u8 15, .int .u8 34, .int .u8 20, .int .u8 31, .int .u8 10, .int .u8 25, .int .u8 14, .int .u8 19, .int .u8 9, .int .u8 13, .int .u8 8, .int .u8 7, .int .u8 6])]⟩ Tryz.prog σ e20275 :=
  Fact.stI s20275 (by kernel_rfl) (Ev.hnil) (fun t => (hb t).trans rfl)
end Go.Proofs.YtcmcmmedcodmpaaGreatDoor.Q42known
