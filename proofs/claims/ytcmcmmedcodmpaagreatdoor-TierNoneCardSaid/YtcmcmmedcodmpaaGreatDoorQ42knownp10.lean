/-
  The examples of a chapter, part 10: calls that are evaluated from a heap to a heap.
-/
import Derived.Test.YtcmcmmedcodmpaaGreatDoorQ42knownp9
namespace Go.Proofs.YtcmcmmedcodmpaaGreatDoor.Q42known
open Go Go.RowKit Go.Proofs.YtcmcmmedcodmpaaGreatDoor.Ev Go.Proofs.YtcmcmmedcodmpaaGreatDoor.Ev.Sh
set_option maxRecDepth 100000
def b98l : List Value := [u1 66]
def b98 : Blk := .cells 5 b98l
def b99l : List Value := [t, t, p 51 0, p 274 0, g 3801 0 6 1 1]
def b99 : Blk := .cells 35 b99l
def b100l : List Value := [i6 2, s 2318 0 3 3, s 2320 0 1 1]
def b100 : Blk := .cells 300 b100l
def b101 : Blk := .map [⟨u3 1, i6 50, 1⟩] 2
def b102l : List Value := [t, u6 2]
def b102 : Blk := .cells 147 b102l
def b103l : List Value := ([u6 9259542123273789056, u3 0, u3 1] ++ r 6 (u3 0) ([]))
def b103 : Blk := .cells 280 b103l
def b104l : List Value := [t, i6 1, g 2175 0 4 2 2]
def b104 : Blk := .cells 221 b104l
def b105l : List Value := [t, u6 1, p 97 0, p 115 0, p 133 0, p 151 0, p 169 0, p 187 0, p 205 0, p 223 0, .map (some 77), .map (some 78)]
def b105 : Blk := .cells 230 b105l
def b106 : Blk := .map [⟨u3 1, .agg ⟨[u3 1, u6 18446744073709551615, u6 2]⟩, 1⟩] 2
def b107 : Blk := .map [⟨u6 2, u3 1, 1⟩] 2
def b108l : List Value := [u6 0, u6 0, u6 1, u6 0, u6 0, u6 0, t, pn, pn, i6 0]
def b108 : Blk := .cells 184 b108l
def b109l : List Value := [t, .int .i64 (.negSucc 0), p 243 0, p 254 0, .map (some 255), i6 50, i6 0]
def b109 : Blk := .cells 172 b109l
def b110l : List Value := [i6 2, i6 1000, i6 1, i6 50, i6 0, i6 0]
def b110 : Blk := .cells 178 b110l
def b111l : List Value := [s 280 0 1 1, i6 1, i6 0]
def b111 : Blk := .cells 225 b111l
def b112l : List Value := [t, i6 1, g 3477 0 4 1 1]
def b112 : Blk := .cells 221 b112l
def b113l : List Value := [t, u6 1, p 320 0, p 338 0, p 356 0, p 374 0, p 392 0, p 410 0, p 428 0, p 446 0, .map (some 300), .map (some 301)]
def b113 : Blk := .cells 230 b113l
def b114l : List Value := [.string ⟨⟨[]⟩⟩, sn, u6 0, u6 0, .string ⟨⟨[98]⟩⟩, g 2162 0 1 1 1, u6 18446744073709551615, u6 2]
def b114 : Blk := .cells 59 b114l
def b115l : List Value := [u3 2, u3 1, .int .i32 (.negSucc 0), u3 2, u3 2, .int .i32 (.ofNat 0), u3 1, u3 1, .int .i32 (.ofNat 0)]
def b115 : Blk := .cells 303 b115l
def b116l : List Value := [.string ⟨⟨[97]⟩⟩, g 3464 0 1 1 1, u6 18446744073709551615, u6 1]
def b116 : Blk := .cells 59 b116l
def b117l : List Value := [i6 2, .string ⟨⟨[97]⟩⟩, g 2872 0 1 1 1, u6 1, u6 18446744073709551615, u6 1]
def b117 : Blk := .cells 67 b117l
def x8724 : Tr Blk := ⟨w53, N w67 (N w72 w77 (N (N L (N L (N D0 L L L) L L) (N (N L D0 L L) L L L) (N L (N L L L D0) (N (V b98) L L L) L)) L L L) L) L L, L⟩
def w78 : T4 Blk := N (N (V b109) (V b110) L L) L L L
def w79 : T4 Blk := N L (N L L D0 D0) D1 (N D0 D0 D0 L)
def w80 : T4 Blk := N (N L D1 L L) w66 (N D1 D1 L L) w79
def w81 : T4 Blk := N w61 w63 w65 w80
def w82 : T4 Blk := N (N L (N L D0 L L) (N L L D0 L) L) L (N (N L D0 L L) L L L) (N (N D0 L L L) L L L)
def w83 : T4 Blk := N (N L L D0 L) (N D0 D0 D0 L) L L
def w84 : T4 Blk := N L (N L L D0 L) (N D0 D0 D0 L) L
def w85 : T4 Blk := N L L (N L D0 L D0) (N D0 D0 L L)
def w86 : T4 Blk := N L L L w85
def w87 : T4 Blk := N (N L L D0 L) (N L D0 D0 D0) D1 (N D0 D0 L L)
def w88 : T4 Blk := N L (N L L L D0) D1 (N D0 D0 L L)
def w89 : T4 Blk := N L (N L L D0 L) L (N L L L D0)
def w90 : T4 Blk := N L L (N L D0 D0 D0) (N D0 D0 D0 L)
def w91 : T4 Blk := N L L (N L L L D0) (N D0 D0 L L)
def w92 : T4 Blk := N (N w82 w68 w70 w71) w77 (N (N L (N L (N D0 L L L) L L) (N (N L D0 L L) L L L) (N L (N L L L D0) (N (V b98) D0 D0 L) L)) (N L w83 L w84) w86 (N (N L (N D0 D0 L L) L L) (N L L L (N L D0 L D0)) (N (N D0 D0 L L) L L L) L)) (N w55 (N w56 (N (N D0 D0 D0 L) L L L) w87 L) (N w76 L w88 L) (N (N L D1 (N D0 D0 L L) L) w89 w90 w91))
def w93 : T4 Blk := N L L (N L D0 D0 D0) (N D0 L L L)
def w94 : T4 Blk := N L (N L D1 (N D0 D0 L L) L) w89 w93
def w95 : T4 Blk := N (N D0 L L D0) D1 D1 (N D0 L L L)
def w96 : T4 Blk := N L (N L (N L L D0 L) L L) (N L (N L D0 L L) L L) L
def w97 : T4 Blk := N L L (N L L (N L L D0 D0) L) L
def w98 : T4 Blk := N (N (V b87) L D0 L) (N D0 D0 D0 L) L L
def w99 : T4 Blk := N L (N D1 (N D0 L L L) L L) (N L (N D0 D0 D0 L) L L) w83
def w100 : T4 Blk := N L L L (N D1 D1 (N D0 L L L) L)
def w101 : T4 Blk := N (N L L D0 L) L L (N L L D0 L)
def w102 : T4 Blk := N w101 (N (N L D0 D0 D0) D1 D1 D1) D2 (N D1 D1 (N D0 D0 D0 L) L)
def w103 : T4 Blk := N (N D0 L L L) L (N L D0 L L) L
def w104 : T4 Blk := N L (N L L L D0) (N D0 D0 D0 L) L
def w105 : T4 Blk := N (N (N L L L (N L L L D0)) (N D1 L L L) w103 (N (N L L L D0) (N D0 D0 L L) L (N L L D0 L))) L (N L w95 w104 L) (N L (N L L (N L L D0 L) L) (N L L (N L L D0 D0) D1) (N D1 (N D0 L L L) L L))
def w106 : T4 Blk := N (N (N (N L L L D0) L L L) (N L (N L L D0 D0) L L) (N L L L D1) (N D1 D1 (N (V b85) D0 L L) L)) (N L L (N L L L (N L L D0 L)) (N (N D0 D0 D0 L) L (N L D0 D0 D0) L)) (N (N (N L D0 L L) (N D0 D0 L L) L L) (N L L L (N L D0 L D0)) (N (N D0 D0 L L) L L L) w64) (N (N L L L (N L L L D0)) (N D1 (N D0 L L L) L L) w62 (N L D1 L L))
def w107 : T4 Blk := N (N L L L D0) (N L D0 D0 D0) L L
def w108 : T4 Blk := N w107 L L L
def w109 : T4 Blk := N L L (N L L L D0) (N L D0 D0 D0)
def w110 : T4 Blk := N L (N L D0 L L) L (N L L L D0)
def w111 : T4 Blk := N w108 (N w84 L w60 (N L L (N D0 L L D0) D1)) (N (N D1 L L L) w109 L (N L L L (N L D0 D0 D0))) (N (N D1 L L L) (N L L (N L L D0 D0) D1) (N L L L (N D0 L L L)) w110)
def w112 : T4 Blk := N (N D1 (N D0 L L L) L L) (N (N L D0 D0 D0) L L L) (N L L (N L L D0 D0) D1) (N L L L (N D0 L L L))
def w113 : T4 Blk := N L (N L L D0 L) (N L D0 D0 D0) D1
def w114 : T4 Blk := N w110 (N (N D0 D0 D0 L) L L L) w113 (N (N D0 D0 D0 L) L L L)
def w115 : T4 Blk := N (N (N D0 D0 L L) L L L) (N L L L D1) L L
def w116 : T4 Blk := N L (N L L D0 D0) (N D0 D0 D0 L) L
def w117 : T4 Blk := N L L (N L L D0 D0) (N D0 L L L)
def w118 : T4 Blk := N w116 w117 w57 L
def w119 : T4 Blk := N L L w109 L
def y8724 : Tr Blk := ⟨N (N (N D1 (N (V b99) D0 D0 D0) (N D0 D0 L L) (N L L D0 L)) (N (N D0 L (V b100) L) (N (V b7) L L L) (N L (V b4) L (V b5)) (N L (V b8) L (V b9))) (N (N (V b101) (V b89) (V b90) L) L L L) (N (N L L L (V b42)) (N L L (V b102) D0) (N D0 (V b103) (V b93) L) L)) (N (N L L (N (V b16) L (V b17) L) (N (V b104) (V b10) (V b10) (V b105))) w4 w7 w10) w20 (N w22 w25 (N (N (V b106) (V b107) (V b46) (V b108)) D1 (N D0 L L L) (N L (V b86) L (V b87))) (N (N L (V b49) L (V b50)) L (N (V b4) L (V b5) L) (N (V b51) L (V b52) (V b88)))), N (N L (N (N w78 (N (N L L (V b80) L) (N L (V b91) D0 D0) (N (V b92) (V b111) L L) L) (N L (N L L L (V b56)) (N L (V b57) L (V b112)) (N (V b10) (V b10) (V b113) L)) w31) w41 (N w43 w46 w49 (N L L (N (V b20) L (V b21) L) (N (V b82) L (V b83) (V b95)))) (N (N (N (V b96) (V b84) (V b47) (V b85)) (N D0 D0 L L) L L) (N L L L (N L D0 L D0)) (N (N D0 D0 L L) L L L) L)) w58 w81) w92 (N (N w94 (N L w95 (N L L (N L L L D0) D1) (N (N D0 D0 (V b98) D0) L (N L L D0 L) (N L L L (V b114)))) w96 w97) (N (N (N L (N L L D0 D0) (N D0 D0 L L) (N L L (V b115) L)) w98 (N L L (N L D0 L L) L) L) w99 w100 w102) w105 w106) (N w111 (N w112 w114 (N (N (N L D0 D0 D0) D1 (N (V b85) D0 L L) L) (N (N D0 L L L) (N L (V b116) L L) L L) (N L L L (N D0 L L L)) (N L L (N L L L D0) L)) L) (N w115 w118 w119 (N (N (N L L D0 L) L L L) (N L L (N D0 (V b117) L L) L) L L)) L), L⟩
def e8724 : Fact := .st 8 [p 4 0, u6 1, .string ⟨⟨[98]⟩⟩, s 1592 0 1 1, u6 0] x8724 1593 (i6 0) y8724 3802
theorem s8724 : Ev.stOK [] [(0, [.int .u8 0, .int .u8 1, .int .u8 56, .int .u8 2, .int .u8 57, .int .u8 49, .int .u8 28, .int .u8 3, .int .u8 61, .int .u8 58, .int .u8 42, .int .u8 50, .int .u8 38, .int .u8 29, .int .u8 17, .int .u8 4, .int .u8 62, .int .u8 47, .int .u8 59, .int .u8 36, .int .u8 45, .int .u8 43, .int .u8 51, .int .u8 22, .int .u8 53, .int .u8 39, .int .u8 33, .int .u8 30, .int .u8 24, .int .u8 18, .int .u8 12, .int .u8 5, .int .u8 63, .int .u8 55, .int .u8 48, .int .u8 27, .int .u8 60, .int .u8 41, .int .u8 37, .int .u8 16, .int .u8 46, .int .u8 35, .int .u8 44, .int .u8 21, .int .u8 52, .int .u8 32, .int .u8 23, .int .u8 11, .int .u8 54, .int .u8 26, .int .u8 40, .int .u8 15, .int .u8 34, .int .u8 20, .int .u8 31, .int .u8 10, .int .u8 25, .int .u8 14, .int .u8 19, .int .u8 9, .int .u8 13, .int .u8 8, .int .u8 7, .int .u8 6])] Tryz.prog 5000 60 8 [p 4 0, u6 1, .string ⟨⟨[98]⟩⟩, s 1592 0 1 1, u6 0] x8724 1593 (i6 0) y8724 = true := by kernel_rfl
theorem h8724 {σ : Nat → Value} {T : List Fact} (hb : ∀ t, isBld t T = isBld t []) : @Fact.Holds ⟨T, [(0, [.int .u8 0, .int .u8 1, .int .u8 56, .int .u8 2, .int .u8 57, .int .u8 49, .int .u8 28, .int .u8 3, .int .u8 61, .int .u8 58, .int .u8 42, .int .u8 50, .int .u8 38, .int .u8 29, .int .u8 17, .int .u8 4, .int .u8 62, .int .u8 47, .int .u8 59, .int .u8 36, .int .u8 45, .int .u8 43, .int .u8 51, .int .u8 22, .int .u8 53, .int .u8 39, .int .u8 33, .int .u8 30, .int .u8 24, .int .u8 18, .int .u8 12, .int .u8 5, .int .u8 63, .int .u8 55, .int .u8 48, .int .u8 27, .int .u8 60, .int .u8 41, .int .u8 37, .int .u8 16, .int .u8 46, .int .u8 35, .int .u8 44, .int .u8 21, .int .u8 52, .int .u8 32, .int .u8 23, .int .u8 11, .int .u8 54, .int .u8 26, .int .u8 40, .int .u8 15, .int .u8 34, .int .u8 20, .int .u8 31, .int .u8 10, .int .u8 25, .int .u8 14, .int .u8 19, .int .u8 9, .int .u8 13, .int .u8 8, .int .u8 7, .int .u8 6])]⟩ Tryz.prog σ e8724 :=
  Fact.stI s8724 (by kernel_rfl) (Ev.hnil) (fun t => (hb t).trans rfl)
end Go.Proofs.YtcmcmmedcodmpaaGreatDoor.Q42known
