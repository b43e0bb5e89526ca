/-
  The examples of a chapter, part 11: calls that are evaluated from a heap to a heap.
-/
import Derived.Test.YtcmcmmedcodmpaaGreatDoorQ42knownp10
namespace Go.Proofs.YtcmcmmedcodmpaaGreatDoor.Q42known
open Go Go.RowKit Go.Proofs.YtcmcmmedcodmpaaGreatDoor.Ev Go.Proofs.YtcmcmmedcodmpaaGreatDoor.Ev.Sh
set_option maxRecDepth 100000
def b118l : List Value := [t, t, p 51 0, p 274 0, g 6875 0 6 3 3]
def b118 : Blk := .cells 35 b118l
def b119l : List Value := [i6 4, s 5005 0 5 5, s 5007 0 1 1]
def b119 : Blk := .cells 300 b119l
def b120 : Blk := .map [⟨u3 2, i6 50, 2⟩] 3
def b121l : List Value := [t, u6 3]
def b121 : Blk := .cells 147 b121l
def b122l : List Value := ([u6 9259542123273814047, u3 2] ++ r 7 (u3 0) ([]))
def b122 : Blk := .cells 280 b122l
def b123l : List Value := [t, i6 1, g 4862 0 4 3 3]
def b123 : Blk := .cells 221 b123l
def b124l : List Value := [t, u6 2, p 97 0, p 115 0, p 133 0, p 151 0, p 169 0, p 187 0, p 205 0, p 223 0, .map (some 77), .map (some 78)]
def b124 : Blk := .cells 230 b124l
def b125 : Blk := .map [⟨u3 2, .agg ⟨[u3 2, u6 18446744073709551615, u6 3]⟩, 2⟩] 3
def b126 : Blk := .map [⟨u6 3, u3 2, 2⟩] 3
def b127l : List Value := [u6 0, u6 0, u6 2, u6 0, u6 0, u6 0, t, pn, pn, i6 0]
def b127 : Blk := .cells 184 b127l
def b128l : List Value := [i6 2, s 6681 0 3 3, s 6683 0 1 1]
def b128 : Blk := .cells 300 b128l
def b129l : List Value := ([u6 9259542123273814046, u3 1] ++ r 7 (u3 0) ([]))
def b129 : Blk := .cells 280 b129l
def b130l : List Value := [t, i6 1, g 6538 0 4 2 2]
def b130 : Blk := .cells 221 b130l
def b131l : List Value := [t, u6 2, p 320 0, p 338 0, p 356 0, p 374 0, p 392 0, p 410 0, p 428 0, p 446 0, .map (some 300), .map (some 301)]
def b131 : Blk := .cells 230 b131l
def b132l : List Value := [u6 0, u6 0, u6 0, u6 0, u6 1, u6 0, t, pn, pn, i6 0]
def b132 : Blk := .cells 184 b132l
def b133l : List Value := [.string ⟨⟨[]⟩⟩, sn, u6 0, u6 0, .string ⟨⟨[]⟩⟩, sn, u6 0, u6 0, .string ⟨⟨[97]⟩⟩, g 4849 0 1 1 1, u6 18446744073709551615, u6 3]
def b133 : Blk := .cells 59 b133l
def b134l : List Value := [u3 0, u3 0, .int .i32 (.negSucc 0), u3 4, u3 2, .int .i32 (.negSucc 0), u3 4, u3 4, .int .i32 (.ofNat 0), u3 0, u3 0, .int .i32 (.negSucc 0), u3 2, u3 2, .int .i32 (.ofNat 0)]
def b134 : Blk := .cells 303 b134l
def b135l : List Value := [.string ⟨⟨[]⟩⟩, sn, u6 0, u6 0, .string ⟨⟨[98]⟩⟩, g 6525 0 1 1 1, u6 18446744073709551615, u6 2]
def b135 : Blk := .cells 59 b135l
def b136l : List Value := [u3 0, u3 0, .int .i32 (.negSucc 0), u3 2, u3 2, .int .i32 (.ofNat 0), u3 1, u3 1, .int .i32 (.ofNat 0)]
def b136 : Blk := .cells 303 b136l
def b137l : List Value := [i6 2, .string ⟨⟨[97]⟩⟩, g 2872 0 1 1 1, u6 1, u6 18446744073709551615, u6 1, i6 2, .string ⟨⟨[98]⟩⟩, g 5559 0 1 1 1, u6 2, u6 18446744073709551615, u6 2, i6 4, .string ⟨⟨[97]⟩⟩, g 6109 0 1 1 1, u6 1, u6 18446744073709551615, u6 2]
def b137 : Blk := .cells 67 b137l
def w120 : T4 Blk := N (N D0 L (V b119) L) (N (V b7) L L L) (N L (V b4) L (V b5)) (N L (V b8) L (V b9))
def w121 : T4 Blk := N (N w94 (N L w95 (N L L (N L L L D0) D1) (N D1 L (N L L D0 L) (N L L L D0))) w96 w97) (N (N (N L (N L L D0 D0) (N D0 D0 L L) (N L L D0 L)) (N (N D0 L D0 L) (N D0 D0 D0 L) L L) (N L L (N L D0 L L) L) L) w99 w100 w102) w105 w106
def w122 : T4 Blk := N (N L D0 D0 D0) D1 (N D0 D0 L L) L
def w123 : T4 Blk := N L (N L L L D0) (N L D0 D0 D0) L
def w124 : T4 Blk := N L L (N L L D0 L) (N D0 D0 D0 L)
def w125 : T4 Blk := N w111 (N w112 w114 (N w122 (N (N D0 L L L) (N L D0 L L) L L) (N L L L (N D0 L L L)) (N L L (N L L L D0) L)) L) (N w115 w118 w119 (N (N (N L L D0 L) L L L) (N L L D1 L) L w107)) (N (N L w123 L L) (N L w124 (N L (N L D0 D0 L) L L) (N L L L (N L L D0 L))) (N (N (N D0 D0 D0 L) L L L) L w83 L) (N L L w76 (N D1 L (N L D0 L L) (N D0 D0 L L))))
def w126 : T4 Blk := N (N L L L D0) L L (N L D0 D0 D0)
def w127 : T4 Blk := N (N D0 L L L) L L (N D0 L D0 D0)
def w128 : T4 Blk := N (N (N D0 L L L) L L L) L L (N L L L (N L L L D0))
def w129 : T4 Blk := N (N L D0 D0 D0) L L (N L L L D0)
def w130 : T4 Blk := N L (N D0 L D0 D0) (N D0 L L L) L
def w131 : T4 Blk := N (N L w76 (N L L L (N L L D0 D0)) (N (N D0 D0 L L) L L L)) (N (N L L D1 (N D0 D0 L L)) (N L L (N L L D0 L) L) w126 w127) w128 (N w129 (N (N D0 D0 D0 L) L (N D0 L L D0) (N D0 L L L)) L w130)
def w132 : T4 Blk := N L L L (N L L L (N L D0 L D0))
def w133 : T4 Blk := N (N D0 D0 L L) L L (N L D0 D0 D0)
def w134 : T4 Blk := N (N (N L L L (N L D0 D0 D0)) L (N L (N L L D0 D0) D1 L) (N L L (N D0 L L L) L)) (N (N (N L D0 L L) L (N L L L D0) (N D0 D0 L L)) (N L (N L L D0 D0) L L) w79 w124) w132 (N w133 (N (N D0 D0 L L) L L L) (N (N L D0 L L) D1 D1 (N D0 L L L)) L)
def w135 : T4 Blk := N w130 L (N L (N L L D0 D0) D1 (N D0 L L L)) L
def w136 : T4 Blk := N (N L L L D0) D1 (N D0 L L L) L
def w137 : T4 Blk := N L (N L D0 L L) L (N L L D0 L)
def w138 : T4 Blk := N w136 w137 (N L L D1 (N D0 D0 L L)) w117
def w139 : T4 Blk := N L w136 w137 (N L L D1 L)
def w140 : T4 Blk := N (N L L D0 D0) D1 D1 L
def w141 : T4 Blk := N L (N L (N L D0 L L) L L) (N L (N D0 L L L) L L) L
def w142 : T4 Blk := N L L (N L L (N L D0 D0 L) L) L
def w143 : T4 Blk := N (N L L L D0) (N D0 D0 L L) L L
def w144 : T4 Blk := N (N L L L (N L L L D0)) (N D1 L L L) w143 w54
def w145 : T4 Blk := N D1 D1 (N D0 D0 L L) L
def w146 : T4 Blk := N (N D0 D0 D0 L) L L (N L L L D0)
def w147 : T4 Blk := N L L (N L D0 D0 D0) D1
def w148 : T4 Blk := N (N L L L (N L L D0 D0)) (N D1 L L L) w103 (N (N L L L D0) (N D0 D0 L L) L (N L L D0 D0))
def w149 : T4 Blk := N L L (N L L L D0) (N D0 L L L)
def w150 : T4 Blk := N (N (N L L (N L L L (N L L L D0)) (N D1 D1 L L)) (N (N (N L D0 L L) L L (N L D0 L L)) D2 D2 w145) (N (N L L L (N L L D0 D0)) w146 (N L L (N D0 L L L) L) (N (N L L D0 D0) (N D0 L L L) L (N L D0 L L))) L) (N (N (N L L L (N L L L D0)) w140 w75 L) (N L (N L L (N L D0 L L) L) w147 (N D1 L L L)) (N (N (N L L D0 L) L L L) (N L (N L D0 D0 L) L L) (N L L (N L L L D0) D1) (N D1 (N D0 D0 D0 (V b98)) (N D0 L L L) L)) (N L L (N L L L (N L D0 L D0)) (N (N D0 D0 L L) L (N D0 D0 D0 L) L))) (N (N (N (N D0 L L D0) (N D0 L L L) L L) (N L L L (N D0 L D0 D0)) (N (N D0 L L L) L L L) (N L (N L D0 D0 D0) L L)) w148 (N (N L L L (N L L D0 D0)) D2 L (N L D1 (N D0 L L L) L)) (N w137 (N L L (N D0 D0 D0 L) L) (N (N L L L D0) L L L) L)) (N (N L L L (N L (N L D0 L L) D1 D1)) (N (N (N D0 D0 L L) L L D1) L L (N L L L (N L L L D0))) (N (N L L L (N L L L D0)) w145 (N L L (N D0 L L L) L) w149) (N L (N (N L D0 D0 D0) D1 D1 (N D0 (V b85) D0 L)) L w57))
def w151 : T4 Blk := N (N L L L w109) (N L w88 (N L L L (N L D0 L L)) (N D1 D1 (N D0 L L L) L)) w61 w63
def w152 : T4 Blk := N (N L (N L L L D0) D1 L) w91 w85 L
def w153 : T4 Blk := N L L (N L L L (N D0 L D0 D0)) (N (N D0 L L L) L L L)
def y9651 : Tr Blk := ⟨N (N (N D1 (N (V b118) D0 D0 D0) (N D0 D0 L L) (N L L D0 L)) w120 (N (N (V b120) (V b89) (V b90) L) L L L) (N (N L L L (V b42)) (N L L (V b121) D0) (N D0 (V b122) (V b93) L) L)) (N (N L L (N (V b16) L (V b17) L) (N (V b123) (V b10) (V b10) (V b124))) w4 w7 w10) w20 (N w22 w25 (N (N (V b125) (V b126) (V b46) (V b127)) D1 (N D0 L L L) (N L D0 L D0)) (N (N L (V b128) L (V b50)) L (N (V b4) L (V b5) L) (N (V b51) L (V b52) (V b101)))), N (N L (N (N w78 (N (N L L (V b80) L) (N L (V b102) D0 D0) (N (V b129) (V b111) L L) L) (N L (N L L L (V b56)) (N L (V b57) L (V b130)) (N (V b10) (V b10) (V b131) L)) w31) w41 (N w43 w46 w49 (N L L (N (V b20) L (V b21) L) (N (V b82) L (V b83) (V b106)))) (N (N (N (V b107) (V b84) (V b132) (V b85)) (N D0 D0 L L) L L) (N L L L (N L D0 L D0)) (N (N D0 D0 L L) L L L) L)) w58 w81) w92 w121 w125, N (N L (N (N w131 w134 (N w135 w138 w139 (N (N L L L (N L L L D0)) w140 (N L L (N L L D0 D0) D1) (N (N D0 (V b85) D0 L) L (N L D0 L L) (N L L (V b133) L)))) (N w141 w142 (N (N L (N L D0 D0 D0) (N D0 L L L) (N L (V b134) L (V b87))) w54 (N L L (N D0 L L L) L) L) w144)) w150 (N w151 (N w65 (N (N L D1 L L) w66 (N D1 D1 L L) (N L (N L L D0 D0) D1 (N D0 (V b98) D0 L))) (N (N L (N L D0 L L) (N L L (V b135) L) L) L (N (N L D0 L L) L L L) (N (N D0 L L L) L L L)) w68) (N (N L (N (N L D0 D0 D0) (N D0 L L L) (N L (V b136) L (V b87)) (N L D0 L D0)) (N (N D0 L L L) L L L) L) w152 w153 (N (N (N L L L D0) L L L) (N L L (N L D0 D0 (V b137)) L) L L)) L) L) L L) L L L⟩
def e9651 : Fact := .st 13 [p 4 0, u6 2, .string ⟨⟨[97]⟩⟩, .string ⟨⟨[65]⟩⟩, i6 2] y8724 3802 (t) y9651 6876
theorem s9651 : Ev.stOK [] [(0, [.int .u8 0, .int .u8 1, .int .u8 56, .int .u8 2, .int .u8 57, .int .u8 49, .int .u8 28, .int .u8 3, .int .u8 61, .int .u8 58, .int .u8 42, .int .u8 50, .int .u8 38, .int .u8 29, .int .u8 17, .int .u8 4, .int .u8 62, .int .u8 47, .int .u8 59, .int .u8 36, .int .u8 45, .int .u8 43, .int .u8 51, .int .u8 22, .int .u8 53, .int .u8 39, .int .u8 33, .int .u8 30, .int .u8 24, .int .u8 18, .int .u8 12, .int .u8 5, .int .u8 63, .int .u8 55, .int .u8 48, .int .u8 27, .int .u8 60, .int .u8 41, .int .u8 37, .int .u8 16, .int .u8 46, .int .u8 35, .int .u8 44, .int .u8 21, .int .u8 52, .int .u8 32, .int .u8 23, .int .u8 11, .int .u8 54, .int .u8 26, .int .u8 40, .int .u8 15, .int .u8 34, .int .u8 20, .int .u8 31, .int .u8 10, .int .u8 25, .int .u8 14, .int .u8 19, .int .u8 9, .int .u8 13, .int .u8 8, .int .u8 7, .int .u8 6])] Tryz.prog 5000 60 13 [p 4 0, u6 2, .string ⟨⟨[97]⟩⟩, .string ⟨⟨[65]⟩⟩, i6 2] y8724 3802 (t) y9651 = true := by kernel_rfl
theorem h9651 {σ : Nat → Value} {T : List Fact} (hb : ∀ t, isBld t T = isBld t []) : @Fact.Holds ⟨T, [(0, [.int .u8 0, .int .u8 1, .int .u8 56, .int .u8 2, .int .u8 57, .int .u8 49, .int .u8 28, .int .u8 3, .int .u8 61, .int .u8 58, .int .u8 42, .int .u8 50, .int .u8 38, .int .u8 29, .int .u8 17, .int .u8 4, .int .u8 62, .int .u8 47, .int .u8 59, .int .u8 36, .int .u8 45, .int .u8 43, .int .u8 51, .int .u8 22, .int .u8 53, .int .u8 39, .int .u8 33, .int .u8 30, .int .u8 24, .int .u8 18, .int .u8 12, .int .u8 5, .int .u8 63, .int .u8 55, .int .u8 48, .int .u8 27, .int .u8 60, .int .u8 41, .int .u8 37, .int .u8 16, .int .u8 46, .int .u8 35, .int .u8 44, .int .u8 21, .int .u8 52, .int .u8 32, .int .u8 23, .int .u8 11, .int .u8 54, .int .u8 26, .int .u8 40, .int .u8 15, .int .u8 34, .int .u8 20, .int .u8 31, .int .u8 10, .int .u8 25, .int .u8 14, .int .u8 19, .int .u8 9, .int .u8 13, .int .u8 8, .int .u8 7, .int .u8 6])]⟩ Tryz.prog σ e9651 :=
  Fact.stI s9651 (by kernel_rfl) (Ev.hnil) (fun t => (hb t).trans rfl)
end Go.Proofs.YtcmcmmedcodmpaaGreatDoor.Q42known
