/-
  The examples of a chapter, part 18: calls that are evaluated from a heap to a heap.
-/
import Derived.Test.YtcmcmmedcodmpaaGreatDoorQ42knownp17
namespace Go.Proofs.YtcmcmmedcodmpaaGreatDoor.Q42known
open Go Go.RowKit Go.Proofs.YtcmcmmedcodmpaaGreatDoor.Ev Go.Proofs.YtcmcmmedcodmpaaGreatDoor.Ev.Sh
set_option maxRecDepth 100000
def b203l : List Value := [i6 1, i6 1000, i6 0, u6 0, f, p 13807 0, p 13827 0, p 13979 0, p 13786 0, p 13787 0, p 13980 0]
def b203 : Blk := .cells 104 b203l
def b204l : List Value := [t, u6 0, p 13850 0, p 13868 0, p 13886 0, p 13904 0, p 13922 0, p 13940 0, p 13958 0, p 13976 0, .map (some 13830), .map (some 13831)]
def b204 : Blk := .cells 230 b204l
def b205l : List Value := [i6 1, s 13970 0 257 257, s 13972 0 256 256]
def b205 : Blk := .cells 300 b205l
def b206l : List Value := [p 13974 0, u6 0, u6 0, u6 0, u6 0, i6 0]
def b206 : Blk := .cells 296 b206l
def b207l : List Value := [p 13832 0, .map (some 13977), .map (some 13978)]
def b207 : Blk := .cells 163 b207l
def x13538 : Tr Blk := ⟨w231, w223, N (N L w213 w226 (N w232 (N w234 (N w236 w237 (N (N (N L L D0 L) L L L) (N L (N D0 L L L) L L) (N (N L D0 L L) L L L) (N L (N L L L D0) (N (V b170) (V b172) (V b1) (V b2)) (N (V b172) (V b173) (V b1) L))) L) L L) L L)) L L L⟩
def w257 : T4 Blk := N (N (N D0 D0 D0 L) (N L L L (V b4)) (N L (V b5) L (V b174)) (N L (V b175) L L)) w238 (N L L L (N (V b203) L L (V b13))) w239
def w258 : T4 Blk := N (N (N L (V b180) L (V b181)) (N L (V b18) (V b10) (V b10)) (N (V b204) L L L) L) w242 w244 w246
def y13538 : Tr Blk := ⟨w231, w223, N (N L w213 w226 (N w232 (N w234 (N w236 w237 (N (N (N L L D0 L) L L L) (N L (N D0 L L L) L L) (N (N L D0 L L) L L L) (N L (N L L L D0) (N (V b170) (V b172) (V b1) (V b2)) (N (V b172) (V b173) (V b1) D0))) w257) (N w258 w254 (N w256 (N (N L L (V b20) L) (N (V b21) L (V b205) L) (N (V b206) (V b10) (V b10) (V b207)) (N (V b47) L L L)) L L) L) L) L L)) L L L⟩
def e13538 : Fact := .st 55 [.agg ⟨[i6 1, i6 1000, i6 0, u6 0, f]⟩] x13538 13759 (.tuple ⟨[p 13804 0, i6 0]⟩) y13538 13981
theorem s13538 : Ev.stOK [e13565, e14079, e14593, e15107, e15621, e16135, e16649] [(0, [.int .u8 0, .int .u8 1, .int .u8 56, .int .u8 2, .int .u8 57, .int .u8 49, .int .u8 28, .int .u8 3, .int .u8 61, .int .u8 58, .int .u8 42, .int .u8 50, .int .u8 38, .int .u8 29, .int .u8 17, .int .u8 4, .int .u8 62, .int .u8 47, .int .u8 59, .int .u8 36, .int .u8 45, .int .u8 43, .int .u8 51, .int .u8 22, .int .u8 53, .int .u8 39, .int .u8 33, .int .u8 30, .int .u8 24, .int .u8 18, .int .u8 12, .int .u8 5, .int .u8 63, .int .u8 55, .int .u8 48, .int .u8 27, .int .u8 60, .int .u8 41, .int .u8 37, .int .u8 16, .int .u8 46, .int .u8 35, .int .u8 44, .int .u8 21, .int .u8 52, .int .u8 32, .int .u8 23, .int .u8 11, .int .u8 54, .int .u8 26, .int .u8 40, .int .u8 15, .int .u8 34, .int .u8 20, .int .u8 31, .int .u8 10, .int .u8 25, .int .u8 14, .int .u8 19, .int .u8 9, .int .u8 13, .int .u8 8, .int .u8 7, .int .u8 6])] Tryz.prog 5000 60 55 [.agg ⟨[i6 1, i6 1000, i6 0, u6 0, f]⟩] x13538 13759 (.tuple ⟨[p 13804 0, i6 0]⟩) y13538 = true := by kernel_rfl
theorem h13538 {σ : Nat → Value} {T : List Fact} (hb : ∀ t, isBld t T = isBld t []) : @Fact.Holds ⟨T, [(0, [.int .u8 0, .int .u8 1, .int .u8 56, .int .u8 2, .int .u8 57, .int .u8 49, .int .u8 28, .int .u8 3, .int .u8 61, .int .u8 58, .int .u8 42, .int .u8 50, .int .u8 38, .int .u8 29, .int .u8 17, .int .u8 4, .int .u8 62, .int .u8 47, .int .u8 59, .int .u8 36, .int .u8 45, .int .u8 43, .int .u8 51, .int .u8 22, .int .u8 53, .int .u8 39, .int .u8 33, .int .u8 30, .int .u8 24, .int .u8 18, .int .u8 12, .int .u8 5, .int .u8 63, .int .u8 55, .int .u8 48, .int .u8 27, .int .u8 60, .int .u8 41, .int .u8 37, .int .u8 16, .int .u8 46, .int .u8 35, .int .u8 44, .int .u8 21, .int .u8 52, .int .u8 32, .int .u8 23, .int .u8 11, .int .u8 54, .int .u8 26, .int .u8 40, .int .u8 15, .int .u8 34, .int .u8 20, .int .u8 31, .int .u8 10, .int .u8 25, .int .u8 14, .int .u8 19, .int .u8 9, .int .u8 13, .int .u8 8, .int .u8 7, .int .u8 6])]⟩ Tryz.prog σ e13538 :=
  Fact.stI s13538 (by kernel_rfl) (Ev.hcons (h13565 (fun _ => rfl)) (Ev.hcons (h14079 (fun _ => rfl)) (Ev.hcons (h14593 (fun _ => rfl)) (Ev.hcons (h15107 (fun _ => rfl)) (Ev.hcons (h15621 (fun _ => rfl)) (Ev.hcons (h16135 (fun _ => rfl)) (Ev.hcons (h16649 (fun _ => rfl)) (Ev.hnil)))))))) (fun t => (hb t).trans rfl)
end Go.Proofs.YtcmcmmedcodmpaaGreatDoor.Q42known
