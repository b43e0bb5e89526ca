/-
  The examples of a chapter, part 22: calls that are evaluated from a heap to a heap.
-/
import Derived.Test.YtcmcmmedcodmpaaGreatDoorQ42knownp21
namespace Go.Proofs.YtcmcmmedcodmpaaGreatDoor.Q42known
open Go Go.RowKit Go.Proofs.YtcmcmmedcodmpaaGreatDoor.Ev Go.Proofs.YtcmcmmedcodmpaaGreatDoor.Ev.Sh
set_option maxRecDepth 100000
def b235l : List Value := [t, u6 0, p 14073 0, p 14091 0, p 14109 0, p 14127 0, p 14145 0, p 14163 0, pn, pn, .map (some 14053), .map (some 14054)]
def b235 : Blk := .cells 230 b235l
def b236l : List Value := [i6 1, s 14175 0 257 257, s 14177 0 256 256]
def b236 : Blk := .cells 300 b236l
def b237l : List Value := [p 14179 0, u6 0, u6 0, u6 0, u6 0, i6 0]
def b237 : Blk := .cells 296 b237l
def w282 : T4 Blk := N w258 w254 w262 (N w263 w264 (N (N (V b215) L (V b216) L) (N (V b18) (V b10) (V b10) (V b235)) L L) w266)
def x20789 : Tr Blk := ⟨w231, w223, N (N L w213 w226 (N w232 (N w234 w259 w282 w281) L L)) L L L⟩
def w283 : T4 Blk := N (N L (V b233) L (V b234)) L L (N L L L (V b20))
def w284 : T4 Blk := N (N L (V b21) L (V b236)) (N L (V b237) L L) L L
def y20789 : Tr Blk := ⟨w231, w223, N (N L w213 w226 (N w232 (N w234 w259 w282 (N w277 (N w280 w283 w284 L) L L)) L L)) L L L⟩
def e20789 : Fact := .st 270 [] x20789 14171 (p 14181 0) y20789 14182
theorem s20789 : Ev.stOK [] [(0, [.int .u8 0, .int .u8 1, .int .u8 56, .int .u8 2, .int .u8 57, .int .u8 49, .int .u8 28, .int .u8 3, .int .u8 61, .int .u8 58, .int .u8 42, .int .u8 50, .int .u8 38, .int .u8 29, .int .u8 17, .int .u8 4, .int .u8 62, .int .u8 47, .int .u8 59, .int .u8 36, .int .u8 45, .int .u8 43, .int .u8 51, .int .u8 22, .int .u8 53, .int .u8 39, .int .u8 33, .int .u8 30, .int .u8 24, .int .u8 18, .int .u8 12, .int .u8 5, .int .u8 63, .int .u8 55, .int .u8 48, .int .u8 27, .int .u8 60, .int .u8 41, .int .u8 37, .int .u8 16, .int .u8 46, .int .u8 35, .int .u8 44, .int .u8 21, .int .u8 52, .int .u8 32, .int .u8 23, .int .u8 11, .int .u8 54, .int .u8 26, .int .u8 40, .int .u8 15, .int .u8 34, .int .u8 20, .int .u8 31, .int .u8 10, .int .u8 25, .int .u8 14, .int .u8 19, .int .u8 9, .int .u8 13, .int .u8 8, .int .u8 7, .int .u8 6])] Tryz.prog 5000 60 270 [] x20789 14171 (p 14181 0) y20789 = true := by kernel_rfl
theorem h20789 {σ : Nat → Value} {T : List Fact} (hb : ∀ t, isBld t T = isBld t []) : @Fact.Holds ⟨T, [(0, [.int .u8 0, .int .u8 1, .int .u8 56, .int .u8 2, .int .u8 57, .int .u8 49, .int .u8 28, .int .u8 3, .int .u8 61, .int .u8 58, .int .u8 42, .int .u8 50, .int .u8 38, .int .u8 29, .int .u8 17, .int .u8 4, .int .u8 62, .int .u8 47, .int .u8 59, .int .u8 36, .int .u8 45, .int .u8 43, .int .u8 51, .int .u8 22, .int .u8 53, .int .u8 39, .int .u8 33, .int .u8 30, .int .u8 24, .int .u8 18, .int .u8 12, .int .u8 5, .int .u8 63, .int .u8 55, .int .u8 48, .int .u8 27, .int .u8 60, .int .u8 41, .int .u8 37, .int .u8 16, .int .u8 46, .int .u8 35, .int .u8 44, .int .u8 21, .int .u8 52, .int .u8 32, .int .u8 23, .int .u8 11, .int .u8 54, .int .u8 26, .int .u8 40, .int .u8 15, .int .u8 34, .int .u8 20, .int .u8 31, .int .u8 10, .int .u8 25, .int .u8 14, .int .u8 19, .int .u8 9, .int .u8 13, .int .u8 8, .int .u8 7, .int .u8 6])]⟩ Tryz.prog σ e20789 :=
  Fact.stI s20789 (by kernel_rfl) (Ev.hnil) (fun t => (hb t).trans rfl)
end Go.Proofs.YtcmcmmedcodmpaaGreatDoor.Q42known
