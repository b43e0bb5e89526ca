/-
  The examples of a chapter, part 17: calls that are evaluated from a heap to a heap.
-/
import Derived.Test.YtcmcmmedcodmpaaGreatDoorQ42knownp16
namespace Go.Proofs.YtcmcmmedcodmpaaGreatDoor.Q42known
open Go Go.RowKit Go.Proofs.YtcmcmmedcodmpaaGreatDoor.Ev Go.Proofs.YtcmcmmedcodmpaaGreatDoor.Ev.Sh
set_option maxRecDepth 100000
def b200l : List Value := [t, u6 0, p 13850 0, p 13868 0, p 13886 0, p 13904 0, p 13922 0, p 13940 0, pn, pn, .map (some 13830), .map (some 13831)]
def b200 : Blk := .cells 230 b200l
def b201l : List Value := [i6 1, s 13952 0 257 257, s 13954 0 256 256]
def b201 : Blk := .cells 300 b201l
def b202l : List Value := [p 13956 0, u6 0, u6 0, u6 0, u6 0, i6 0]
def b202 : Blk := .cells 296 b202l
def w255 : T4 Blk := N (N (N L (V b180) L (V b181)) (N L (V b18) (V b10) (V b10)) (N (V b200) L L L) L) w242 w244 w246
def x16649 : Tr Blk := ⟨w231, w223, N (N L w213 w226 (N w232 (N w234 w240 (N w255 w254 L L) L) L L)) L L L⟩
def w256 : T4 Blk := N (N (V b20) L (V b21) L) (N (V b201) L (V b202) L) L L
def y16649 : Tr Blk := ⟨w231, w223, N (N L w213 w226 (N w232 (N w234 w240 (N w255 w254 (N w256 L L L) L) L) L L)) L L L⟩
def e16649 : Fact := .st 270 [] x16649 13948 (p 13958 0) y16649 13959
theorem s16649 : Ev.stOK [] [(0, [.int .u8 0, .int .u8 1, .int .u8 56, .int .u8 2, .int .u8 57, .int .u8 49, .int .u8 28, .int .u8 3, .int .u8 61, .int .u8 58, .int .u8 42, .int .u8 50, .int .u8 38, .int .u8 29, .int .u8 17, .int .u8 4, .int .u8 62, .int .u8 47, .int .u8 59, .int .u8 36, .int .u8 45, .int .u8 43, .int .u8 51, .int .u8 22, .int .u8 53, .int .u8 39, .int .u8 33, .int .u8 30, .int .u8 24, .int .u8 18, .int .u8 12, .int .u8 5, .int .u8 63, .int .u8 55, .int .u8 48, .int .u8 27, .int .u8 60, .int .u8 41, .int .u8 37, .int .u8 16, .int .u8 46, .int .u8 35, .int .u8 44, .int .u8 21, .int .u8 52, .int .u8 32, .int .u8 23, .int .u8 11, .int .u8 54, .int .u8 26, .int .u8 40, .int .u8 15, .int .u8 34, .int .u8 20, .int .u8 31, .int .u8 10, .int .u8 25, .int .u8 14, .int .u8 19, .int .u8 9, .int .u8 13, .int .u8 8, .int .u8 7, .int .u8 6])] Tryz.prog 5000 60 270 [] x16649 13948 (p 13958 0) y16649 = true := by kernel_rfl
theorem h16649 {σ : Nat → Value} {T : List Fact} (hb : ∀ t, isBld t T = isBld t []) : @Fact.Holds ⟨T, [(0, [.int .u8 0, .int .u8 1, .int .u8 56, .int .u8 2, .int .u8 57, .int .u8 49, .int .u8 28, .int .u8 3, .int .u8 61, .int .u8 58, .int .u8 42, .int .u8 50, .int .u8 38, .int .u8 29, .int .u8 17, .int .u8 4, .int .u8 62, .int .u8 47, .int .u8 59, .int .u8 36, .int .u8 45, .int .u8 43, .int .u8 51, .int .u8 22, .int .u8 53, .int .u8 39, .int .u8 33, .int .u8 30, .int .u8 24, .int .u8 18, .int .u8 12, .int .u8 5, .int .u8 63, .int .u8 55, .int .u8 48, .int .u8 27, .int .u8 60, .int .u8 41, .int .u8 37, .int .u8 16, .int .u8 46, .int .u8 35, .int .u8 44, .int .u8 21, .int .u8 52, .int .u8 32, .int .u8 23, .int .u8 11, .int .u8 54, .int .u8 26, .int .u8 40, .int .u8 15, .int .u8 34, .int .u8 20, .int .u8 31, .int .u8 10, .int .u8 25, .int .u8 14, .int .u8 19, .int .u8 9, .int .u8 13, .int .u8 8, .int .u8 7, .int .u8 6])]⟩ Tryz.prog σ e16649 :=
  Fact.stI s16649 (by kernel_rfl) (Ev.hnil) (fun t => (hb t).trans rfl)
end Go.Proofs.YtcmcmmedcodmpaaGreatDoor.Q42known
