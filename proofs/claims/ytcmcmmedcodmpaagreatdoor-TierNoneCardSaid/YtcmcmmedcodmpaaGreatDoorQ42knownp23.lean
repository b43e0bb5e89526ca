/-
  The examples of a chapter, part 23: calls that are evaluated from a heap to a heap.
-/
import Derived.Test.YtcmcmmedcodmpaaGreatDoorQ42knownp22
namespace Go.Proofs.YtcmcmmedcodmpaaGreatDoor.Q42known
open Go Go.RowKit Go.Proofs.YtcmcmmedcodmpaaGreatDoor.Ev Go.Proofs.YtcmcmmedcodmpaaGreatDoor.Ev.Sh
set_option maxRecDepth 100000
def b238l : List Value := [f, f, p 13804 0, p 14027 0, sn]
def b238 : Blk := .cells 35 b238l
def b239l : List Value := [i6 2, i6 1000, i6 0, u6 0, f, p 14030 0, p 14050 0, p 14202 0, p 14009 0, p 14010 0, p 14203 0]
def b239 : Blk := .cells 104 b239l
def b240l : List Value := [t, u6 0, p 14073 0, p 14091 0, p 14109 0, p 14127 0, p 14145 0, p 14163 0, p 14181 0, p 14199 0, .map (some 14053), .map (some 14054)]
def b240 : Blk := .cells 230 b240l
def b241l : List Value := [i6 1, s 14193 0 257 257, s 14195 0 256 256]
def b241 : Blk := .cells 300 b241l
def b242l : List Value := [p 14197 0, u6 0, u6 0, u6 0, u6 0, i6 0]
def b242 : Blk := .cells 296 b242l
def b243l : List Value := [p 14055 0, .map (some 14200), .map (some 14201)]
def b243 : Blk := .cells 163 b243l
def x13536 : Tr Blk := ⟨w231, w223, N (N L w213 w226 (N w232 (N w234 (N w236 w237 (N (N (N L L D0 L) L L L) (N L (N D0 L L L) L L) (N (N L D0 L L) L L L) (N L (N L L L D0) (N (V b170) L L L) L)) L) L L) L L)) L L L⟩
def w285 : T4 Blk := N (N (N L L D0 L) L L L) (N L (N D0 L L L) L L) (N (N L D0 L L) L L L) (N L (N L L L D0) (N (V b170) D0 D0 D0) (N D0 (V b238) D0 D0))
def w286 : T4 Blk := N w236 w237 w285 w257
def w287 : T4 Blk := N w258 w254 (N w256 (N (N L L (V b20) L) (N (V b21) L (V b205) L) (N (V b206) (V b10) (V b10) (V b207)) (N (V b47) D0 D0 D0)) w260 w261) (N (N L L (N L L L (V b239)) (N L L (V b13) D0)) w264 (N (N (V b215) L (V b216) L) (N (V b18) (V b10) (V b10) (V b240)) L L) w266)
def y13536 : Tr Blk := ⟨w231, w223, N (N L w213 w226 (N w232 (N w234 w286 w287 (N w277 (N w280 w283 w284 (N (N L (V b20) L (V b21)) (N L (V b241) L (V b242)) (N (V b10) (V b10) (V b243) (V b47)) L)) L L)) L L)) L L L⟩
def e13536 : Fact := .st 12 [.agg ⟨[f, f]⟩] x13536 13753 (p 13757 0) y13536 14204
theorem s13536 : Ev.stOK [e13538, e17705, e18219, e18733, e19247, e19761, e20275, e20789] [(0, [.int .u8 0, .int .u8 1, .int .u8 56, .int .u8 2, .int .u8 57, .int .u8 49, .int .u8 28, .int .u8 3, .int .u8 61, .int .u8 58, .int .u8 42, .int .u8 50, .int .u8 38, .int .u8 29, .int .u8 17, .int .u8 4, .int .u8 62, .int .u8 47, .int .u8 59, .int .u8 36, .int .u8 45, .int .u8 43, .int .u8 51, .int .u8 22, .int .u8 53, .int .u8 39, .int .u8 33, .int .u8 30, .int .u8 24, .int .u8 18, .int .u8 12, .int .u8 5, .int .u8 63, .int .u8 55, .int .u8 48, .int .u8 27, .int .u8 60, .int .u8 41, .int .u8 37, .int .u8 16, .int .u8 46, .int .u8 35, .int .u8 44, .int .u8 21, .int .u8 52, .int .u8 32, .int .u8 23, .int .u8 11, .int .u8 54, .int .u8 26, .int .u8 40, .int .u8 15, .int .u8 34, .int .u8 20, .int .u8 31, .int .u8 10, .int .u8 25, .int .u8 14, .int .u8 19, .int .u8 9, .int .u8 13, .int .u8 8, .int .u8 7, .int .u8 6])] Tryz.prog 5000 60 12 [.agg ⟨[f, f]⟩] x13536 13753 (p 13757 0) y13536 = true := by kernel_rfl
theorem h13536 {σ : Nat → Value} {T : List Fact} (hb : ∀ t, isBld t T = isBld t []) : @Fact.Holds ⟨T, [(0, [.int .u8 0, .int .u8 1, .int .u8 56, .int .u8 2, .int .u8 57, .int .u8 49, .int .u8 28, .int .u8 3, .int .u8 61, .int .u8 58, .int .u8 42, .int .u8 50, .int .u8 38, .int .u8 29, .int .u8 17, .int .u8 4, .int .u8 62, .int .u8 47, .int .u8 59, .int .u8 36, .int .u8 45, .int .u8 43, .int .u8 51, .int .u8 22, .int .u8 53, .int .u8 39, .int .u8 33, .int .u8 30, .int .u8 24, .int .u8 18, .int .u8 12, .int .u8 5, .int .u8 63, .int .u8 55, .int .u8 48, .int .u8 27, .int .u8 60, .int .u8 41, .int .u8 37, .int .u8 16, .int .u8 46, .int .u8 35, .int .u8 44, .int .u8 21, .int .u8 52, .int .u8 32, .int .u8 23, .int .u8 11, .int .u8 54, .int .u8 26, .int .u8 40, .int .u8 15, .int .u8 34, .int .u8 20, .int .u8 31, .int .u8 10, .int .u8 25, .int .u8 14, .int .u8 19, .int .u8 9, .int .u8 13, .int .u8 8, .int .u8 7, .int .u8 6])]⟩ Tryz.prog σ e13536 :=
  Fact.stI s13536 (by kernel_rfl) (Ev.hcons (h13538 (fun _ => rfl)) (Ev.hcons (h17705 (fun _ => rfl)) (Ev.hcons (h18219 (fun _ => rfl)) (Ev.hcons (h18733 (fun _ => rfl)) (Ev.hcons (h19247 (fun _ => rfl)) (Ev.hcons (h19761 (fun _ => rfl)) (Ev.hcons (h20275 (fun _ => rfl)) (Ev.hcons (h20789 (fun _ => rfl)) (Ev.hnil))))))))) (fun t => (hb t).trans rfl)
end Go.Proofs.YtcmcmmedcodmpaaGreatDoor.Q42known
