/-
  The examples of a chapter, part 6: calls that are evaluated from a heap to a heap.
-/
import Derived.Test.YtjefafgnkaenbaaGreatDoorQ41knownp5
namespace Go.Proofs.YtjefafgnkaenbaaGreatDoor.Q41known
open Go Go.RowKit Go.Proofs.YtjefafgnkaenbaaGreatDoor.Ev Go.Proofs.YtjefafgnkaenbaaGreatDoor.Ev.Sh
set_option maxRecDepth 100000
def b106l : List Value := [i6 2, s 5174 0 3 3, s 5176 0 1 1]
def b106 : Blk := .cells 341 b106l
def b107 : Blk := .map [⟨u3 1, i6 58, 5⟩] 6
def b108l : List Value := [t, .int .i64 (.negSucc 0), p 18 0, p 29 0, .map (some 30), i6 58, i6 0]
def b108 : Blk := .cells 178 b108l
def b109l : List Value := [i6 5, i6 1000, i6 1, i6 58, i6 0, i6 0]
def b109 : Blk := .cells 184 b109l
def b110 : Blk := .map [⟨u3 1, .agg ⟨[u3 1, u6 23, u6 2]⟩, 1⟩] 2
def b111 : Blk := .map [⟨u6 2, .agg ⟨[]⟩, 1⟩] 2
def b112l : List Value := [p 93 0, u6 8388608, u6 0, u6 0, u6 0, i6 1]
def b112 : Blk := .cells 337 b112l
def b113 : Blk := .map [⟨u6 2, u3 1, 1⟩] 2
def b114 : Blk := .map [] 4
def b115l : List Value := (((((b104l).set 3 (u3 25)).set 4 (u3 25)).set 5 (.int .i32 (.ofNat 23))).set 75 (u3 1)).set 76 (u3 1)
def b115 : Blk := .cells 344 b115l
def b116l : List Value := (b19l).set 23 (i6 1)
def b116 : Blk := .cells 3 b116l
def b117l : List Value := [u3 0, u3 0, .int .i32 (.negSucc 0), u3 2, u3 2, .int .i32 (.ofNat 0), u3 1, u3 1, .int .i32 (.ofNat 0)]
def b117 : Blk := .cells 344 b117l
def w108 : T4 Blk := N D1 D1 L (N D0 L D0 L)
def w109 : T4 Blk := N (N (V b109) L L L) L L L
def w110 : T4 Blk := N L L (N L D0 L D0) (N L (V b105) L (V b112))
def w111 : T4 Blk := N w21 (N L (N L L L (V b18)) (N L (V b19) L (V b42)) (N L (V b43) (V b110) (V b113))) (N (N (V b44) (V b85) (V b114) (V b46)) D1 L (N L D0 L L)) (N (N D0 D0 L L) L L L)
def w112 : T4 Blk := N w95 w96 w97 (N (N (N D0 D0 L L) L L L) (N L L L (N L L D0 D0)) (N (N D0 L L L) L L L) (N L L L (N L D0 D0 D0)))
def w113 : T4 Blk := N (N (N D1 D1 (N D0 D0 D0 L) L) (N L L (N L L D0 L) (N L D0 D0 D0)) (N D1 (N D0 D0 L L) L L) (N L L L (N L D0 L D0))) (N (N (N D0 D0 L L) L L L) (N L L L (N L L L D0)) (N D1 (N D0 D0 L L) L L) (N L L L D1)) (N w26 (N L (N L L L D0) L L) w62 w72) w102
def w114 : T4 Blk := N L L (N (N L L D0 D0) L (N L L L D0) L) (N L L L (N L D0 L L))
def w115 : T4 Blk := N L L (N L L D0 L) (N L D0 L L)
def w116 : T4 Blk := N D3 D3 D3 (N D2 D2 (N D1 (N D0 L L L) L L) L)
def w117 : T4 Blk := N w112 w113 (N w104 w105 w114 (N w115 (N L L (N L D0 L L) (N L L (V b115) L)) (N (N (V b116) L D0 L) D1 D1 D1) D2)) w116
def w118 : T4 Blk := N L L (N L L L (N L L D0 D0)) (N (N D0 D0 L L) (N L L (V b117) L) (N (V b51) L D0 L) (N D0 D0 L L))
def w119 : T4 Blk := N L L (N L D1 (N D0 L L L) L) (N L L (N D0 D0 D0 L) L)
def w120 : T4 Blk := N w47 L L L
def y5944 : Tr Blk := ⟨N (N w108 (N (N (V b106) L (V b5) L) (N L L L (V b2)) (N L (V b3) L (V b6)) (N L (V b7) (V b107) (V b108))) w109 w98) (N (N L (N L L (V b14) L) (N (V b15) L (V b89) (V b110)) (N (V b111) (V b83) L L)) w110 w6 w9) w19 w111, w100, N (N L (N w117 (N (N w118 w119 w120 (N w24 L (N L (N L D0 D0 L) L L) L)) L L L) L L) L L) L L L⟩
def e5944 : Fact := .st 8 [p 227 0, u6 20, .string ⟨⟨[107]⟩⟩] y5658 4321 (i6 0) y5944 5351
theorem s5944 : Ev.stOK [e6151] [(0, [.int .u8 0, .int .u8 1, .int .u8 56, .int .u8 2, .int .u8 57, .int .u8 49, .int .u8 28, .int .u8 3, .int .u8 61, .int .u8 58, .int .u8 42, .int .u8 50, .int .u8 38, .int .u8 29, .int .u8 17, .int .u8 4, .int .u8 62, .int .u8 47, .int .u8 59, .int .u8 36, .int .u8 45, .int .u8 43, .int .u8 51, .int .u8 22, .int .u8 53, .int .u8 39, .int .u8 33, .int .u8 30, .int .u8 24, .int .u8 18, .int .u8 12, .int .u8 5, .int .u8 63, .int .u8 55, .int .u8 48, .int .u8 27, .int .u8 60, .int .u8 41, .int .u8 37, .int .u8 16, .int .u8 46, .int .u8 35, .int .u8 44, .int .u8 21, .int .u8 52, .int .u8 32, .int .u8 23, .int .u8 11, .int .u8 54, .int .u8 26, .int .u8 40, .int .u8 15, .int .u8 34, .int .u8 20, .int .u8 31, .int .u8 10, .int .u8 25, .int .u8 14, .int .u8 19, .int .u8 9, .int .u8 13, .int .u8 8, .int .u8 7, .int .u8 6])] Tryz.prog 5000 60 8 [p 227 0, u6 20, .string ⟨⟨[107]⟩⟩] y5658 4321 (i6 0) y5944 = true := by kernel_rfl
theorem h5944 {σ : Nat → Value} {T : List Fact} (hb : ∀ t, isBld t T = isBld t []) : @Fact.Holds ⟨T, [(0, [.int .u8 0, .int .u8 1, .int .u8 56, .int .u8 2, .int .u8 57, .int .u8 49, .int .u8 28, .int .u8 3, .int .u8 61, .int .u8 58, .int .u8 42, .int .u8 50, .int .u8 38, .int .u8 29, .int .u8 17, .int .u8 4, .int .u8 62, .int .u8 47, .int .u8 59, .int .u8 36, .int .u8 45, .int .u8 43, .int .u8 51, .int .u8 22, .int .u8 53, .int .u8 39, .int .u8 33, .int .u8 30, .int .u8 24, .int .u8 18, .int .u8 12, .int .u8 5, .int .u8 63, .int .u8 55, .int .u8 48, .int .u8 27, .int .u8 60, .int .u8 41, .int .u8 37, .int .u8 16, .int .u8 46, .int .u8 35, .int .u8 44, .int .u8 21, .int .u8 52, .int .u8 32, .int .u8 23, .int .u8 11, .int .u8 54, .int .u8 26, .int .u8 40, .int .u8 15, .int .u8 34, .int .u8 20, .int .u8 31, .int .u8 10, .int .u8 25, .int .u8 14, .int .u8 19, .int .u8 9, .int .u8 13, .int .u8 8, .int .u8 7, .int .u8 6])]⟩ Tryz.prog σ e5944 :=
  Fact.stI s5944 (by kernel_rfl) (Ev.hcons (h6151 (fun _ => rfl)) (Ev.hnil)) (fun t => (hb t).trans rfl)
def b118 : Blk := .map [⟨u3 1, i6 58, 6⟩] 7
def b119l : List Value := [t, u6 22, p 95 0, p 113 0, p 131 0, p 149 0, p 167 0, p 185 0, p 203 0, p 221 0, .map (some 75), .map (some 76)]
def b119 : Blk := .cells 236 b119l
def b120 : Blk := .map [] 7
def b121l : List Value := [t, i6 0, g 4663 0 4 2 2]
def b121 : Blk := .cells 258 b121l
def b122l : List Value := [t, u6 23, p 95 0, p 113 0, p 131 0, p 149 0, p 167 0, p 185 0, p 203 0, p 221 0, .map (some 75), .map (some 76)]
def b122 : Blk := .cells 236 b122l
def b123l : List Value := [u6 0, u6 2, u6 0, u6 0, u6 0, u6 0, t, pn, pn, i6 0]
def b123 : Blk := .cells 190 b123l
def b124 : Blk := .map [⟨.string ⟨⟨[107]⟩⟩, u6 27, 4⟩] 5
def b125l : List Value := [.string ⟨⟨[]⟩⟩, sn, u6 0, u6 0, .string ⟨⟨[]⟩⟩, sn, u6 0, u6 0]
def b125 : Blk := .cells 80 b125l
def b126l : List Value := (((b115l).set 5 (.int .i32 (.negSucc 0))).set 75 (u3 25)).set 76 (u3 25)
def b126 : Blk := .cells 344 b126l
def b127l : List Value := [u3 0, u3 0, .int .i32 (.negSucc 0), u3 2, u3 2, .int .i32 (.negSucc 0), u3 2, u3 2, .int .i32 (.ofNat 0)]
def b127 : Blk := .cells 344 b127l
def w121 : T4 Blk := N w24 L w48 (N (N D0 L L D0) (N D0 L L L) L L)
def w122 : T4 Blk := N (N D0 L L L) L L (N L L L D0)
def w123 : T4 Blk := N (N (N L L L (N D0 L D0 D0)) (N (N D0 L L L) L L L) (N L (N L D0 D0 D0) (N D0 L L L) L) (N L L L (N L L L D0))) (N (N D1 (N D0 L L L) L L) (N (N L D0 L L) L (N L L D0 L) L) (N L (N D0 D0 D0 L) L (N L L L D0)) w122) (N (N D1 D1 L (N L D0 D0 D0)) (N L L (N L L D0 D0) (N D0 D0 L L)) L L) (N (N L L L (N L D0 L L)) L (N L L L (N D0 L L L)) L)
def w124 : T4 Blk := N (N L L D1 (N D0 L L L)) (N L L L (N L L D0 D0)) (N (N D0 L L L) L L (N D0 L D0 D0)) (N (N D0 L L L) L L L)
def w125 : T4 Blk := N L L (N L L L (N L L L D0)) (N (N L D0 D0 D0) L L L)
def x7465 : Tr Blk := ⟨N (N w108 (N (N (V b106) L (V b5) L) (N L L L (V b2)) (N L (V b3) L (V b6)) (N L (V b7) (V b118) (V b108))) w109 w98) (N (N L (N L L (V b14) L) (N (V b15) L (V b89) (V b110)) (N (V b111) (V b119) L L)) w110 w6 w9) w19 w111, w100, N (N L (N w117 (N (N w118 w119 w120 w121) w123 (N w124 w125 (N L (N (N D0 D0 L L) L L L) L L) L) L) L L) L L) L L L⟩
def y7465 : Tr Blk := ⟨N (N w108 (N (N (V b106) L (V b5) L) (N L L L (V b2)) (N L (V b3) L (V b6)) (N L (V b7) (V b120) (V b9))) w1 (N (N L (V b40) L L) (N (V b87) D0 D0 (V b12)) (N (V b13) L L L) L)) (N (N L (N L L (V b14) L) (N (V b15) L (V b121) (V b66)) (N (V b66) (V b122) L L)) (N L L (N L D0 L D0) (N L (V b105) L (V b21))) w6 w9) w19 (N w21 (N L (N L L L (V b18)) (N L (V b19) L (V b42)) (N L (V b43) (V b66) (V b66))) (N (N (V b44) (V b123) (V b124) (V b46)) D1 L (N L D0 L L)) (N (N D0 D0 L L) L L L)), w100, N (N L (N (N w112 w113 (N (N (N L L (N D0 L L D0) D1) (N D1 (N D0 L L L) L L) (N (N L L L D0) D1 D1 L) (N (N L L D0 L) (N L L L (V b125)) L L)) w105 w114 (N w115 (N L L (N L D0 L L) (N L L (V b126) L)) (N (N (V b19) L D0 L) D1 D1 D1) D2)) w116) (N (N (N L L (N L L L (N L L D0 D0)) (N (N D0 D0 L L) (N L L (V b127) L) (N (V b3) L D0 L) (N D0 D0 L L))) w119 w120 w121) w123 (N w124 w125 (N L (N (N D0 D0 L L) L (N L L L D0) (N D0 D0 D0 L)) (N L (N D0 L L D0) (N D0 L L L) L) L) (N w28 (N L L (N L D0 D0 D0) D1) (N (N D0 D0 D0 L) L L L) L)) (N (N (N L L L (N L L D0 D0)) w122 (N (N D0 D0 D0 L) L L L) (N (N L D0 D0 D0) D1 (N D0 D0 D0 L) L)) (N (N L L L (N L L L D0)) (N D1 L L L) (N (N D0 L L L) L (N L D0 L L) L) (N (N L L L D0) (N D0 D0 L L) L (N L L D0 L))) L (N L (N (N D0 L L D0) D1 D1 (N D0 L L L)) w61 L))) (N (N (N L (N L L (N L L D0 L) L) (N L L (N L L D0 D0) D1) (N D1 L L L)) (N (N L (N L L D0 D0) L L) (N L L L D1) (N D1 D1 (N D0 D0 L L) L) (N L L D1 L)) (N L (N (N L L D0 D0) D1 L L) w93 w61) w120) (N (N w24 L w55 L) L L L) L L) L) L L) L L L⟩
def e7465 : Fact := .st 14 [p 227 0, u6 23, i6 5, .string ⟨⟨[]⟩⟩] x7465 5787 (t) y7465 6457
theorem s7465 : Ev.stOK [] [(0, [.int .u8 0, .int .u8 1, .int .u8 56, .int .u8 2, .int .u8 57, .int .u8 49, .int .u8 28, .int .u8 3, .int .u8 61, .int .u8 58, .int .u8 42, .int .u8 50, .int .u8 38, .int .u8 29, .int .u8 17, .int .u8 4, .int .u8 62, .int .u8 47, .int .u8 59, .int .u8 36, .int .u8 45, .int .u8 43, .int .u8 51, .int .u8 22, .int .u8 53, .int .u8 39, .int .u8 33, .int .u8 30, .int .u8 24, .int .u8 18, .int .u8 12, .int .u8 5, .int .u8 63, .int .u8 55, .int .u8 48, .int .u8 27, .int .u8 60, .int .u8 41, .int .u8 37, .int .u8 16, .int .u8 46, .int .u8 35, .int .u8 44, .int .u8 21, .int .u8 52, .int .u8 32, .int .u8 23, .int .u8 11, .int .u8 54, .int .u8 26, .int .u8 40, .int .u8 15, .int .u8 34, .int .u8 20, .int .u8 31, .int .u8 10, .int .u8 25, .int .u8 14, .int .u8 19, .int .u8 9, .int .u8 13, .int .u8 8, .int .u8 7, .int .u8 6])] Tryz.prog 5000 60 14 [p 227 0, u6 23, i6 5, .string ⟨⟨[]⟩⟩] x7465 5787 (t) y7465 = true := by kernel_rfl
theorem h7465 {σ : Nat → Value} {T : List Fact} (hb : ∀ t, isBld t T = isBld t []) : @Fact.Holds ⟨T, [(0, [.int .u8 0, .int .u8 1, .int .u8 56, .int .u8 2, .int .u8 57, .int .u8 49, .int .u8 28, .int .u8 3, .int .u8 61, .int .u8 58, .int .u8 42, .int .u8 50, .int .u8 38, .int .u8 29, .int .u8 17, .int .u8 4, .int .u8 62, .int .u8 47, .int .u8 59, .int .u8 36, .int .u8 45, .int .u8 43, .int .u8 51, .int .u8 22, .int .u8 53, .int .u8 39, .int .u8 33, .int .u8 30, .int .u8 24, .int .u8 18, .int .u8 12, .int .u8 5, .int .u8 63, .int .u8 55, .int .u8 48, .int .u8 27, .int .u8 60, .int .u8 41, .int .u8 37, .int .u8 16, .int .u8 46, .int .u8 35, .int .u8 44, .int .u8 21, .int .u8 52, .int .u8 32, .int .u8 23, .int .u8 11, .int .u8 54, .int .u8 26, .int .u8 40, .int .u8 15, .int .u8 34, .int .u8 20, .int .u8 31, .int .u8 10, .int .u8 25, .int .u8 14, .int .u8 19, .int .u8 9, .int .u8 13, .int .u8 8, .int .u8 7, .int .u8 6])]⟩ Tryz.prog σ e7465 :=
  Fact.stI s7465 (by kernel_rfl) (Ev.hnil) (fun t => (hb t).trans rfl)
end Go.Proofs.YtjefafgnkaenbaaGreatDoor.Q41known
