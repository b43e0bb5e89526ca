/-
  The examples of a chapter, part 26: calls that are evaluated from a heap to a heap.
-/
import Derived.Test.YtcmcmmedcodmpaaGreatDoorQ42knownp25
namespace Go.Proofs.YtcmcmmedcodmpaaGreatDoor.Q42known
open Go Go.RowKit Go.Proofs.YtcmcmmedcodmpaaGreatDoor.Ev Go.Proofs.YtcmcmmedcodmpaaGreatDoor.Ev.Sh
set_option maxRecDepth 100000
def b301l : List Value := [i6 4, s 19595 0 5 5, s 19597 0 1 1]
def b301 : Blk := .cells 300 b301l
def b302 : Blk := .map [⟨u3 1, i6 50, 1⟩, ⟨u3 2, i6 50, 2⟩] 3
def b303l : List Value := [t, .int .i64 (.negSucc 0), p 13773 0, p 13784 0, .map (some 13785), i6 100, i6 0]
def b303 : Blk := .cells 172 b303l
def b304l : List Value := [i6 1, i6 1000, i6 2, i6 100, i6 0, i6 0]
def b304 : Blk := .cells 178 b304l
def b305 : Blk := .map [⟨u3 2, .agg ⟨[u3 2, u6 5, u6 3]⟩, 1⟩] 2
def b306 : Blk := .map [⟨u6 3, .agg ⟨[]⟩, 1⟩] 2
def b307 : Blk := .map [⟨u3 1, .agg ⟨[u3 1, u6 18446744073709551615, u6 2]⟩, 1⟩, ⟨u3 2, .agg ⟨[u3 2, u6 5, u6 3]⟩, 2⟩] 3
def b308 : Blk := .map [⟨u6 2, u3 1, 1⟩, ⟨u6 3, u3 2, 2⟩] 3
def b309l : List Value := (((((b299l).set 6 (u3 8)).set 7 (u3 8)).set 8 (.int .i32 (.ofNat 5))).set 24 (u3 2)).set 25 (u3 2)
def b309 : Blk := .cells 303 b309l
def b310l : List Value := [u3 0, u3 0, .int .i32 (.negSucc 0), u3 4, u3 2, .int .i32 (.ofNat 0), u3 1, u3 4, .int .i32 (.ofNat 0), u3 0, u3 0, .int .i32 (.negSucc 0), u3 2, u3 1, .int .i32 (.ofNat 0)]
def b310 : Blk := .cells 303 b310l
def x23715 : Tr Blk := ⟨w231, w223, N (N L w213 w226 (N w232 (N w234 w311 (N (N (N (N L (V b180) L (V b181)) (N L (V b260) (V b261) (V b261)) (N (V b279) L L L) L) w312 w244 w246) w254 w315 w347) w318) w319 w323)) (N (N w335 w358 (N w361 (N w362 w363 (N L w83 L L) L) L L) L) L L L) L L⟩
def w372 : T4 Blk := N (N D0 D0 D0 L) (N L L L D0) (N L D0 L (V b301)) (N L (V b175) L L)
def w373 : T4 Blk := N L (N D0 L D0 L) (N (V b300) L (V b251) L) L
def w374 : T4 Blk := N (N (N (N L L D0 D0) (N D0 D0 L L) (N L L D0 L) (N D0 L D0 L)) (N (N D0 D0 D0 L) L L L) (N L (N L D0 L L) L L) L) w328 w329 w330
def w375 : T4 Blk := N L w83 L w192
def w376 : T4 Blk := N L w73 w74 (N L (N L L D0 D0) D1 L)
def w377 : T4 Blk := N L L L w182
def w378 : T4 Blk := N (N L L D0 L) L L (N L L L D0)
def w379 : T4 Blk := N (N (N (N D0 L L L) L L L) w378 w101 (N (N L L L (V b309)) (N L (V b250) L D0) (N L D0 D0 D0) D1)) D3 D3 D3
def w380 : T4 Blk := N D2 D2 D2 w145
def y23715 : Tr Blk := ⟨w231, w223, N (N L w213 w226 (N w232 (N w234 (N w236 w237 w308 (N w372 (N (N L L (V b4) L) (N (V b5) L (V b176) L) (N (V b177) (V b302) (V b303) (V b304)) L) w345 w346)) (N (N (N (N L (V b180) L (V b181)) (N L (V b290) (V b305) (V b306)) (N (V b279) L L L) L) w373 w244 w246) w254 (N w256 (N (N L L (V b20) L) (N (V b21) L (V b205) L) (N (V b206) (V b307) (V b308) (V b207)) (N (V b108) D0 D0 D0)) w313 w314) w347) w318) w319 w323)) (N (N (N w350 w374 w333 w334) w358 (N w361 (N w362 w363 w375 w376) (N w365 w366 w367 w377) w379) (N (N w380 L (N (N (N L L L D0) (N D0 D0 D0 L) (N L L L (V b310)) (N L (V b277) L D0)) (N (N L D0 D0 D0) L L L) (N L (N L L D0 L) L L) L) (N (N L L L (N L D0 D0 D0)) (N (N D0 D0 L L) L L L) (N (N L D0 D0 D0) L L L) L)) L L L)) L L L) L L⟩
def e23715 : Fact := .st 195 [p 18780 0, p 18781 0, p 18782 0, p 18783 0] x23715 18859 (u3 2) y23715 19684
theorem s23715 : Ev.stOK [e23868] [(0, [.int .u8 0, .int .u8 1, .int .u8 56, .int .u8 2, .int .u8 57, .int .u8 49, .int .u8 28, .int .u8 3, .int .u8 61, .int .u8 58, .int .u8 42, .int .u8 50, .int .u8 38, .int .u8 29, .int .u8 17, .int .u8 4, .int .u8 62, .int .u8 47, .int .u8 59, .int .u8 36, .int .u8 45, .int .u8 43, .int .u8 51, .int .u8 22, .int .u8 53, .int .u8 39, .int .u8 33, .int .u8 30, .int .u8 24, .int .u8 18, .int .u8 12, .int .u8 5, .int .u8 63, .int .u8 55, .int .u8 48, .int .u8 27, .int .u8 60, .int .u8 41, .int .u8 37, .int .u8 16, .int .u8 46, .int .u8 35, .int .u8 44, .int .u8 21, .int .u8 52, .int .u8 32, .int .u8 23, .int .u8 11, .int .u8 54, .int .u8 26, .int .u8 40, .int .u8 15, .int .u8 34, .int .u8 20, .int .u8 31, .int .u8 10, .int .u8 25, .int .u8 14, .int .u8 19, .int .u8 9, .int .u8 13, .int .u8 8, .int .u8 7, .int .u8 6])] Tryz.prog 5000 60 195 [p 18780 0, p 18781 0, p 18782 0, p 18783 0] x23715 18859 (u3 2) y23715 = true := by kernel_rfl
theorem h23715 {σ : Nat → Value} {T : List Fact} (hb : ∀ t, isBld t T = isBld t []) : @Fact.Holds ⟨T, [(0, [.int .u8 0, .int .u8 1, .int .u8 56, .int .u8 2, .int .u8 57, .int .u8 49, .int .u8 28, .int .u8 3, .int .u8 61, .int .u8 58, .int .u8 42, .int .u8 50, .int .u8 38, .int .u8 29, .int .u8 17, .int .u8 4, .int .u8 62, .int .u8 47, .int .u8 59, .int .u8 36, .int .u8 45, .int .u8 43, .int .u8 51, .int .u8 22, .int .u8 53, .int .u8 39, .int .u8 33, .int .u8 30, .int .u8 24, .int .u8 18, .int .u8 12, .int .u8 5, .int .u8 63, .int .u8 55, .int .u8 48, .int .u8 27, .int .u8 60, .int .u8 41, .int .u8 37, .int .u8 16, .int .u8 46, .int .u8 35, .int .u8 44, .int .u8 21, .int .u8 52, .int .u8 32, .int .u8 23, .int .u8 11, .int .u8 54, .int .u8 26, .int .u8 40, .int .u8 15, .int .u8 34, .int .u8 20, .int .u8 31, .int .u8 10, .int .u8 25, .int .u8 14, .int .u8 19, .int .u8 9, .int .u8 13, .int .u8 8, .int .u8 7, .int .u8 6])]⟩ Tryz.prog σ e23715 :=
  Fact.stI s23715 (by kernel_rfl) (Ev.hcons (h23868 (fun _ => rfl)) (Ev.hnil)) (fun t => (hb t).trans rfl)
end Go.Proofs.YtcmcmmedcodmpaaGreatDoor.Q42known
