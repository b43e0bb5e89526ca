/-
  The examples of a chapter, part 9: calls that are evaluated from a heap to a heap.
-/
import Derived.Test.YtcmcmmedcodmpaaGreatDoorQ42knownp8
namespace Go.Proofs.YtcmcmmedcodmpaaGreatDoor.Q42known
open Go Go.RowKit Go.Proofs.YtcmcmmedcodmpaaGreatDoor.Ev Go.Proofs.YtcmcmmedcodmpaaGreatDoor.Ev.Sh
set_option maxRecDepth 100000
def b79l : List Value := [t, t, p 51 0, p 274 0, sn]
def b79 : Blk := .cells 35 b79l
def b80l : List Value := [i6 2, i6 1000, i6 0, u6 0, f, p 277 0, p 297 0, p 449 0, p 256 0, p 257 0, p 450 0]
def b80 : Blk := .cells 104 b80l
def b81l : List Value := [t, u6 0, p 320 0, p 338 0, p 356 0, p 374 0, p 392 0, p 410 0, p 428 0, p 446 0, .map (some 300), .map (some 301)]
def b81 : Blk := .cells 230 b81l
def b82l : List Value := [i6 1, s 440 0 257 257, s 442 0 256 256]
def b82 : Blk := .cells 300 b82l
def b83l : List Value := [p 444 0, u6 0, u6 0, u6 0, u6 0, i6 0]
def b83 : Blk := .cells 296 b83l
def b84l : List Value := [p 302 0, .map (some 447), .map (some 448)]
def b84 : Blk := .cells 163 b84l
def x1 : Tr Blk := ⟨L, L, L⟩
def w50 : T4 Blk := N (N (N D1 (N (V b79) D0 D0 D0) (N D0 D0 L L) (N L L (V b4) L)) w0 w1 w23) w24 w20 (N w22 w25 (N (N (V b10) (V b10) (V b46) (V b47)) D1 (N D0 L L L) (N L (V b4) L (V b5))) w26)
def w51 : T4 Blk := N w28 (N (N L L (V b80) L) (N L (V b13) D0 D0) (N (V b14) (V b55) L L) L) (N L (N L L L (V b56)) (N L (V b57) L (V b18)) (N (V b10) (V b10) (V b81) L)) w31
def w52 : T4 Blk := N w43 w46 w49 (N L L (N (V b20) L (V b21) L) (N (V b82) L (V b83) (V b10)))
def y1 : Tr Blk := ⟨w50, N (N L (N w51 w41 w52 (N (N (N (V b10) (V b84) (V b47) L) L L L) L L L)) L L) L L L, L⟩
def e1 : Fact := .st 12 [.agg ⟨[t, t]⟩] x1 0 (p 4 0) y1 451
theorem s1 : Ev.stOK [e3, e4170, e4684, e5198, e5712, e6226, e6740, e7254] [(0, [.int .u8 0, .int .u8 1, .int .u8 56, .int .u8 2, .int .u8 57, .int .u8 49, .int .u8 28, .int .u8 3, .int .u8 61, .int .u8 58, .int .u8 42, .int .u8 50, .int .u8 38, .int .u8 29, .int .u8 17, .int .u8 4, .int .u8 62, .int .u8 47, .int .u8 59, .int .u8 36, .int .u8 45, .int .u8 43, .int .u8 51, .int .u8 22, .int .u8 53, .int .u8 39, .int .u8 33, .int .u8 30, .int .u8 24, .int .u8 18, .int .u8 12, .int .u8 5, .int .u8 63, .int .u8 55, .int .u8 48, .int .u8 27, .int .u8 60, .int .u8 41, .int .u8 37, .int .u8 16, .int .u8 46, .int .u8 35, .int .u8 44, .int .u8 21, .int .u8 52, .int .u8 32, .int .u8 23, .int .u8 11, .int .u8 54, .int .u8 26, .int .u8 40, .int .u8 15, .int .u8 34, .int .u8 20, .int .u8 31, .int .u8 10, .int .u8 25, .int .u8 14, .int .u8 19, .int .u8 9, .int .u8 13, .int .u8 8, .int .u8 7, .int .u8 6])] Tryz.prog 5000 60 12 [.agg ⟨[t, t]⟩] x1 0 (p 4 0) y1 = true := by kernel_rfl
theorem h1 {σ : Nat → Value} {T : List Fact} (hb : ∀ t, isBld t T = isBld t []) : @Fact.Holds ⟨T, [(0, [.int .u8 0, .int .u8 1, .int .u8 56, .int .u8 2, .int .u8 57, .int .u8 49, .int .u8 28, .int .u8 3, .int .u8 61, .int .u8 58, .int .u8 42, .int .u8 50, .int .u8 38, .int .u8 29, .int .u8 17, .int .u8 4, .int .u8 62, .int .u8 47, .int .u8 59, .int .u8 36, .int .u8 45, .int .u8 43, .int .u8 51, .int .u8 22, .int .u8 53, .int .u8 39, .int .u8 33, .int .u8 30, .int .u8 24, .int .u8 18, .int .u8 12, .int .u8 5, .int .u8 63, .int .u8 55, .int .u8 48, .int .u8 27, .int .u8 60, .int .u8 41, .int .u8 37, .int .u8 16, .int .u8 46, .int .u8 35, .int .u8 44, .int .u8 21, .int .u8 52, .int .u8 32, .int .u8 23, .int .u8 11, .int .u8 54, .int .u8 26, .int .u8 40, .int .u8 15, .int .u8 34, .int .u8 20, .int .u8 31, .int .u8 10, .int .u8 25, .int .u8 14, .int .u8 19, .int .u8 9, .int .u8 13, .int .u8 8, .int .u8 7, .int .u8 6])]⟩ Tryz.prog σ e1 :=
  Fact.stI s1 (by kernel_rfl) (Ev.hcons (h3 (fun _ => rfl)) (Ev.hcons (h4170 (fun _ => rfl)) (Ev.hcons (h4684 (fun _ => rfl)) (Ev.hcons (h5198 (fun _ => rfl)) (Ev.hcons (h5712 (fun _ => rfl)) (Ev.hcons (h6226 (fun _ => rfl)) (Ev.hcons (h6740 (fun _ => rfl)) (Ev.hcons (h7254 (fun _ => rfl)) (Ev.hnil))))))))) (fun t => (hb t).trans rfl)
def b85l : List Value := [u1 65]
def b85 : Blk := .cells 5 b85l
def b86l : List Value := [u3 1, u3 1, .int .i32 (.ofNat 0), u3 0, u3 0, .int .i32 (.ofNat 0)]
def b86 : Blk := .cells 303 b86l
def b87l : List Value := [i6 1]
def b87 : Blk := .cells 3 b87l
def b88 : Blk := .map [⟨u3 0, i6 50, 0⟩] 1
def b89l : List Value := [t, .int .i64 (.negSucc 0), p 20 0, p 31 0, .map (some 32), i6 50, i6 0]
def b89 : Blk := .cells 172 b89l
def b90l : List Value := [i6 1, i6 1000, i6 1, i6 50, i6 0, i6 0]
def b90 : Blk := .cells 178 b90l
def b91l : List Value := [t, u6 1]
def b91 : Blk := .cells 147 b91l
def b92l : List Value := ([u6 9259542123273814047] ++ r 8 (u3 0) ([]))
def b92 : Blk := .cells 280 b92l
def b93l : List Value := [s 57 0 1 1, i6 1, i6 0]
def b93 : Blk := .cells 225 b93l
def b94l : List Value := [t, i6 1, g 1034 0 4 1 1]
def b94 : Blk := .cells 221 b94l
def b95 : Blk := .map [⟨u3 0, .agg ⟨[u3 0, u6 18446744073709551615, u6 1]⟩, 0⟩] 1
def b96 : Blk := .map [⟨u6 1, u3 0, 0⟩] 1
def b97l : List Value := [.string ⟨⟨[97]⟩⟩, g 1021 0 1 1 1, u6 18446744073709551615, u6 1]
def b97 : Blk := .cells 59 b97l
def x8283 : Tr Blk := ⟨w50, N (N L (N w51 w41 w52 (N (N (N (V b10) (V b84) (V b47) (V b85)) L L L) L L L)) L L) L L L, L⟩
def w53 : T4 Blk := N (N (N D1 (N (V b79) D0 D0 D0) (N D0 D0 L L) (N L L (V b86) L)) (N (N (V b87) L (V b6) L) (N (V b7) L L L) (N L (V b4) L (V b5)) (N L (V b8) L (V b9))) (N (N (V b88) (V b89) (V b90) L) L L L) (N (N L L L (V b42)) (N L L (V b91) D0) (N D0 (V b92) (V b93) L) L)) (N (N L L (N (V b16) L (V b17) L) (N (V b94) (V b10) (V b10) (V b43))) w4 w7 w10) w20 (N w22 w25 (N (N (V b95) (V b96) (V b46) (V b47)) D1 (N D0 L L L) (N L (V b4) L (V b5))) w26)
def w54 : T4 Blk := N (N L D0 L D0) (N D0 D0 L L) L L
def w55 : T4 Blk := N w54 L L L
def w56 : T4 Blk := N L (N D0 L D0 D0) (N D0 L L L) (N L L L D0)
def w57 : T4 Blk := N L L (N D0 L D0 D0) (N D0 L L L)
def w58 : T4 Blk := N w55 (N w56 (N (N D0 L L L) L L L) w57 L) (N (N L L L (N D0 L D0 D0)) (N (N D0 L L L) L L L) L L) (N (N L L L (N L L L D0)) (N (N L D0 D0 D0) L (N L L D0 D0) (N D0 D0 L L)) (N L L L (N L D0 L L)) (N D1 D1 (N D0 L L L) L))
def w59 : T4 Blk := N (N D0 L D0 D0) (N D0 L L L) L L
def w60 : T4 Blk := N (N L L D0 D0) D1 (N D0 L L L) L
def w61 : T4 Blk := N L w59 L w60
def w62 : T4 Blk := N (N L D0 L L) L (N L L D0 L) L
def w63 : T4 Blk := N (N L L L (N L L L D0)) (N D1 (N D0 L L L) L L) w62 (N L D1 (N D0 D0 L L) L)
def w64 : T4 Blk := N L (N L L D0 D0) (N D0 L L L) L
def w65 : T4 Blk := N w64 (N L L L (N L L L D0)) (N D1 (N D0 L L L) L L) w62
def w66 : T4 Blk := N L L (N L L L D0) (N L L D0 D0)
def w67 : T4 Blk := N L (N w51 w41 w52 (N (N (N (V b10) (V b84) (V b47) (V b85)) (N D0 D0 L L) L L) (N L L L (N L D0 L D0)) (N (N D0 D0 L L) L L L) L)) w58 (N w61 w63 w65 (N (N L D1 L L) w66 (N D1 D1 L L) (N L (N L L D0 D0) D1 (N D0 (V b85) D0 L))))
def w68 : T4 Blk := N L L L (N L (N L D0 D0 L) L L)
def w69 : T4 Blk := N (N L D0 D0 D0) (N D0 L L L) L L
def w70 : T4 Blk := N L w69 L (N L L (N L L L D0) D1)
def w71 : T4 Blk := N (N L L L (N L L L D0)) (N (N D0 D0 L L) L L (N L D0 L D0)) (N (N D0 D0 L L) L L L) L
def w72 : T4 Blk := N (N (N L (N L D0 L L) (N L L (V b97) L) L) L (N (N L D0 L L) L L L) (N (N D0 L L L) L L L)) w68 w70 w71
def w73 : T4 Blk := N (N L D0 D0 D0) (N D0 D0 D0 L) L L
def w74 : T4 Blk := N (N L L L D0) L L (N D0 L L L)
def w75 : T4 Blk := N L (N L L D0 D0) (N D0 D0 L L) L
def w76 : T4 Blk := N L (N L D0 L D0) (N D0 D0 L L) L
def w77 : T4 Blk := N (N L L (N (N D0 L D0 D0) (N D0 L L L) (N L L L D0) (N D0 D0 L L)) (N (N L L L D0) (N L L D0 D0) L L)) (N (N L L L (N L L L D0)) (N (N L D0 D0 D0) L L L) (N L L (N D0 D0 D0 L) L) L) (N w73 w74 w75 w76) (N L L L w57)
def y8283 : Tr Blk := ⟨w53, N w67 (N w72 w77 (N (N L (N L (N D0 L L L) L L) (N (N L D0 L L) L L L) (N L (N L L L D0) L L)) L L L) L) L L, L⟩
def e8283 : Fact := .st 8 [p 4 0, u6 0, .string ⟨⟨[97]⟩⟩, s 451 0 1 1, u6 0] x8283 452 (i6 0) y8283 1592
theorem s8283 : Ev.stOK [] [(0, [.int .u8 0, .int .u8 1, .int .u8 56, .int .u8 2, .int .u8 57, .int .u8 49, .int .u8 28, .int .u8 3, .int .u8 61, .int .u8 58, .int .u8 42, .int .u8 50, .int .u8 38, .int .u8 29, .int .u8 17, .int .u8 4, .int .u8 62, .int .u8 47, .int .u8 59, .int .u8 36, .int .u8 45, .int .u8 43, .int .u8 51, .int .u8 22, .int .u8 53, .int .u8 39, .int .u8 33, .int .u8 30, .int .u8 24, .int .u8 18, .int .u8 12, .int .u8 5, .int .u8 63, .int .u8 55, .int .u8 48, .int .u8 27, .int .u8 60, .int .u8 41, .int .u8 37, .int .u8 16, .int .u8 46, .int .u8 35, .int .u8 44, .int .u8 21, .int .u8 52, .int .u8 32, .int .u8 23, .int .u8 11, .int .u8 54, .int .u8 26, .int .u8 40, .int .u8 15, .int .u8 34, .int .u8 20, .int .u8 31, .int .u8 10, .int .u8 25, .int .u8 14, .int .u8 19, .int .u8 9, .int .u8 13, .int .u8 8, .int .u8 7, .int .u8 6])] Tryz.prog 5000 60 8 [p 4 0, u6 0, .string ⟨⟨[97]⟩⟩, s 451 0 1 1, u6 0] x8283 452 (i6 0) y8283 = true := by kernel_rfl
theorem h8283 {σ : Nat → Value} {T : List Fact} (hb : ∀ t, isBld t T = isBld t []) : @Fact.Holds ⟨T, [(0, [.int .u8 0, .int .u8 1, .int .u8 56, .int .u8 2, .int .u8 57, .int .u8 49, .int .u8 28, .int .u8 3, .int .u8 61, .int .u8 58, .int .u8 42, .int .u8 50, .int .u8 38, .int .u8 29, .int .u8 17, .int .u8 4, .int .u8 62, .int .u8 47, .int .u8 59, .int .u8 36, .int .u8 45, .int .u8 43, .int .u8 51, .int .u8 22, .int .u8 53, .int .u8 39, .int .u8 33, .int .u8 30, .int .u8 24, .int .u8 18, .int .u8 12, .int .u8 5, .int .u8 63, .int .u8 55, .int .u8 48, .int .u8 27, .int .u8 60, .int .u8 41, .int .u8 37, .int .u8 16, .int .u8 46, .int .u8 35, .int .u8 44, .int .u8 21, .int .u8 52, .int .u8 32, .int .u8 23, .int .u8 11, .int .u8 54, .int .u8 26, .int .u8 40, .int .u8 15, .int .u8 34, .int .u8 20, .int .u8 31, .int .u8 10, .int .u8 25, .int .u8 14, .int .u8 19, .int .u8 9, .int .u8 13, .int .u8 8, .int .u8 7, .int .u8 6])]⟩ Tryz.prog σ e8283 :=
  Fact.stI s8283 (by kernel_rfl) (Ev.hnil) (fun t => (hb t).trans rfl)
end Go.Proofs.YtcmcmmedcodmpaaGreatDoor.Q42known
