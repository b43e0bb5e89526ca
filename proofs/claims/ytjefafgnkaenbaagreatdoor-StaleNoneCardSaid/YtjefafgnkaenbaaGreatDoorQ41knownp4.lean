/-
  The examples of a chapter, part 4: calls that are evaluated from a heap to a heap.
-/
import Derived.Test.YtjefafgnkaenbaaGreatDoorQ41knownp3
namespace Go.Proofs.YtjefafgnkaenbaaGreatDoor.Q41known
open Go Go.RowKit Go.Proofs.YtjefafgnkaenbaaGreatDoor.Ev Go.Proofs.YtjefafgnkaenbaaGreatDoor.Ev.Sh
set_option maxRecDepth 100000
def b40l : List Value := [i6 5, i6 1000, i6 0, u6 0, f, p 52 0, p 72 0, p 224 0, p 31 0, p 32 0, p 225 0]
def b40 : Blk := .cells 102 b40l
def b41l : List Value := [t, u6 0, p 95 0, p 113 0, p 131 0, p 149 0, p 167 0, p 185 0, p 203 0, p 221 0, .map (some 75), .map (some 76)]
def b41 : Blk := .cells 236 b41l
def b42l : List Value := [i6 1, s 215 0 257 257, s 217 0 256 256]
def b42 : Blk := .cells 341 b42l
def b43l : List Value := [p 219 0, u6 0, u6 0, u6 0, u6 0, i6 0]
def b43 : Blk := .cells 337 b43l
def b44l : List Value := [p 77 0, .map (some 222), .map (some 223)]
def b44 : Blk := .cells 150 b44l
def b45l : List Value := r 6 (u6 0) ([t, pn, pn, i6 0])
def b45 : Blk := .cells 190 b45l
def b46l : List Value := [u6 10, u6 5, u6 3, u6 4, p 49 0, .map (some 226)]
def b46 : Blk := .cells 34 b46l
def x1 : Tr Blk := ⟨L, L, L⟩
def w22 : T4 Blk := N (N D1 D1 L (N (V b2) L (V b3) L)) w0 w1 (N (N L (V b40) L L) (N (V b11) D0 D0 (V b12)) (N (V b13) L L L) L)
def w23 : T4 Blk := N L (N L L L (V b18)) (N L (V b19) L (V b42)) (N L (V b43) (V b8) (V b8))
def y1 : Tr Blk := ⟨N w22 (N (N L (N L L (V b14) L) (N (V b15) L (V b16) (V b8)) (N (V b8) (V b41) L L)) w4 w6 w9) w19 (N w21 w23 (N (N (V b44) (V b45) (V b8) (V b46)) L L L) L), L, L⟩
def e1 : Fact := .st 13 [.agg ⟨[i6 5, i6 1000, i6 0, u6 0, f]⟩, .agg ⟨[u6 10, u6 5, u6 3, u6 4]⟩] x1 0 (.tuple ⟨[p 227 0, i6 0]⟩) y1 228
theorem s1 : Ev.stOK [e30, e544, e1058, e1572, e2086, e2600, e3114] [(0, [.int .u8 0, .int .u8 1, .int .u8 56, .int .u8 2, .int .u8 57, .int .u8 49, .int .u8 28, .int .u8 3, .int .u8 61, .int .u8 58, .int .u8 42, .int .u8 50, .int .u8 38, .int .u8 29, .int .u8 17, .int .u8 4, .int .u8 62, .int .u8 47, .int .u8 59, .int .u8 36, .int .u8 45, .int .u8 43, .int .u8 51, .int .u8 22, .int .u8 53, .int .u8 39, .int .u8 33, .int .u8 30, .int .u8 24, .int .u8 18, .int .u8 12, .int .u8 5, .int .u8 63, .int .u8 55, .int .u8 48, .int .u8 27, .int .u8 60, .int .u8 41, .int .u8 37, .int .u8 16, .int .u8 46, .int .u8 35, .int .u8 44, .int .u8 21, .int .u8 52, .int .u8 32, .int .u8 23, .int .u8 11, .int .u8 54, .int .u8 26, .int .u8 40, .int .u8 15, .int .u8 34, .int .u8 20, .int .u8 31, .int .u8 10, .int .u8 25, .int .u8 14, .int .u8 19, .int .u8 9, .int .u8 13, .int .u8 8, .int .u8 7, .int .u8 6])] Tryz.prog 5000 60 13 [.agg ⟨[i6 5, i6 1000, i6 0, u6 0, f]⟩, .agg ⟨[u6 10, u6 5, u6 3, u6 4]⟩] x1 0 (.tuple ⟨[p 227 0, i6 0]⟩) y1 = true := by kernel_rfl
theorem h1 {σ : Nat → Value} {T : List Fact} (hb : ∀ t, isBld t T = isBld t []) : @Fact.Holds ⟨T, [(0, [.int .u8 0, .int .u8 1, .int .u8 56, .int .u8 2, .int .u8 57, .int .u8 49, .int .u8 28, .int .u8 3, .int .u8 61, .int .u8 58, .int .u8 42, .int .u8 50, .int .u8 38, .int .u8 29, .int .u8 17, .int .u8 4, .int .u8 62, .int .u8 47, .int .u8 59, .int .u8 36, .int .u8 45, .int .u8 43, .int .u8 51, .int .u8 22, .int .u8 53, .int .u8 39, .int .u8 33, .int .u8 30, .int .u8 24, .int .u8 18, .int .u8 12, .int .u8 5, .int .u8 63, .int .u8 55, .int .u8 48, .int .u8 27, .int .u8 60, .int .u8 41, .int .u8 37, .int .u8 16, .int .u8 46, .int .u8 35, .int .u8 44, .int .u8 21, .int .u8 52, .int .u8 32, .int .u8 23, .int .u8 11, .int .u8 54, .int .u8 26, .int .u8 40, .int .u8 15, .int .u8 34, .int .u8 20, .int .u8 31, .int .u8 10, .int .u8 25, .int .u8 14, .int .u8 19, .int .u8 9, .int .u8 13, .int .u8 8, .int .u8 7, .int .u8 6])]⟩ Tryz.prog σ e1 :=
  Fact.stI s1 (by kernel_rfl) (Ev.hcons (h30 (fun _ => rfl)) (Ev.hcons (h544 (fun _ => rfl)) (Ev.hcons (h1058 (fun _ => rfl)) (Ev.hcons (h1572 (fun _ => rfl)) (Ev.hcons (h2086 (fun _ => rfl)) (Ev.hcons (h2600 (fun _ => rfl)) (Ev.hcons (h3114 (fun _ => rfl)) (Ev.hnil)))))))) (fun t => (hb t).trans rfl)
def b47l : List Value := [t, u6 4, p 95 0, p 113 0, p 131 0, p 149 0, p 167 0, p 185 0, p 203 0, p 221 0, .map (some 75), .map (some 76)]
def b47 : Blk := .cells 236 b47l
def b48 : Blk := .map [⟨.string ⟨⟨[107]⟩⟩, u6 8, 1⟩] 2
def b49l : List Value := [u1 118]
def b49 : Blk := .cells 5 b49l
def b50l : List Value := [u3 1, u3 1, .int .i32 (.ofNat 0), u3 0, u3 0, .int .i32 (.ofNat 0)]
def b50 : Blk := .cells 344 b50l
def b51l : List Value := [i6 1]
def b51 : Blk := .cells 3 b51l
def b52 : Blk := .map [⟨u3 0, i6 59, 0⟩] 1
def b53l : List Value := [t, .int .i64 (.negSucc 0), p 18 0, p 29 0, .map (some 30), i6 59, i6 0]
def b53 : Blk := .cells 178 b53l
def b54l : List Value := [i6 5, i6 1000, i6 1, i6 59, i6 0, i6 0]
def b54 : Blk := .cells 184 b54l
def b55l : List Value := [t, u6 1]
def b55 : Blk := .cells 158 b55l
def b56l : List Value := ([u6 9259542123273814037] ++ r 8 (u3 0) ([]))
def b56 : Blk := .cells 303 b56l
def b57l : List Value := [s 55 0 1 1, i6 1, i6 0]
def b57 : Blk := .cells 262 b57l
def b58l : List Value := [t, i6 1, g 1328 0 4 1 1]
def b58 : Blk := .cells 258 b58l
def b59 : Blk := .map [⟨u3 0, .agg ⟨[u3 0, u6 20, u6 1]⟩, 0⟩] 1
def b60 : Blk := .map [⟨u6 1, .agg ⟨[]⟩, 0⟩] 1
def b61l : List Value := [t, u6 5, p 95 0, p 113 0, p 131 0, p 149 0, p 167 0, p 185 0, p 203 0, p 221 0, .map (some 75), .map (some 76)]
def b61 : Blk := .cells 236 b61l
def b62l : List Value := (((((b18l).set 0 (u3 21)).set 1 (u3 21)).set 2 (.int .i32 (.ofNat 20))).set 63 (u3 0)).set 64 (u3 0)
def b62 : Blk := .cells 344 b62l
def b63l : List Value := (b19l).set 20 (i6 1)
def b63 : Blk := .cells 3 b63l
def b64l : List Value := [p 93 0, u6 1048576, u6 0, u6 0, u6 0, i6 1]
def b64 : Blk := .cells 337 b64l
def b65 : Blk := .map [⟨u6 1, u3 0, 0⟩] 1
def b66 : Blk := .map [] 2
def b67l : List Value := ([u1 1] ++ r 7 (u1 0) ([u1 15, u1 118]))
def b67 : Blk := .cells 5 b67l
def b68l : List Value := [.string ⟨⟨[107]⟩⟩, g 1315 0 1 10 10, u6 20, u6 1]
def b68 : Blk := .cells 80 b68l
def w24 : T4 Blk := N L L (N L D0 L D0) (N D0 D0 L L)
def w25 : T4 Blk := N (N L L D0 D0) (N D0 D0 L L) L L
def w26 : T4 Blk := N (N D0 D0 L L) L L (N L L D0 L)
def w27 : T4 Blk := N (N L D0 D0 D0) (N D0 L L L) L L
def w28 : T4 Blk := N (N D0 L D0 D0) (N D0 L L L) L L
def w29 : T4 Blk := N (N L L L D0) (N L D0 D0 D0) L L
def w30 : T4 Blk := N (N w24 L w25 (N L L L D1)) (N w26 (N L (N L L L D0) L L) w27 w28) (N L L L w29) (N L (N L (N D0 D0 L L) L L) (N (N L L D0 D0) (N D0 D0 L L) (N L L L D0) (N L L D0 D0)) L)
def w31 : T4 Blk := N L (N L L L D0) (N L D0 D0 D0) L
def w32 : T4 Blk := N (N D0 D0 D0 L) L L (N L L D0 L)
def w33 : T4 Blk := N (N L D0 L D0) (N D0 D0 L L) L L
def w34 : T4 Blk := N L L L w33
def w35 : T4 Blk := N (N w31 L (N D1 L L L) (N L L (N L L D0 D0) D1)) (N (N L L L (N D0 L L L)) (N L (N L D0 L L) L (N L L L D0)) w32 (N (N D0 D0 D0 L) L L L)) w34 (N L (N (N L L D0 D0) D1 L (N L D0 L L)) (N (N D0 D0 L L) L L L) w24)
def w36 : T4 Blk := N L w25 (N L L L D1) w26
def w37 : T4 Blk := N (N L (N L L L D0) L L) w27 w28 L
def w38 : T4 Blk := N L L w29 L
def w39 : T4 Blk := N (N L L (V b49) L) L L L
def x4458 : Tr Blk := ⟨N w22 (N (N L (N L L (V b14) L) (N (V b15) L (V b16) (V b8)) (N (V b8) (V b47) L L)) w4 w6 w9) w19 (N w21 w23 (N (N (V b44) (V b45) (V b48) (V b46)) D1 L (N L D0 L L)) (N (N D0 D0 L L) L L L)), N (N L w30 w35 (N w36 w37 w38 (N (N L (N D0 D0 L L) L L) w39 L L))) L L L, L⟩
def w40 : T4 Blk := N D1 D1 L (N (V b50) L (V b51) L)
def w41 : T4 Blk := N (N (V b54) L L L) L L L
def w42 : T4 Blk := N (N L (V b40) L L) (N (V b55) D0 D0 (V b56)) (N (V b57) L L L) L
def w43 : T4 Blk := N L L (N L (V b62) L (V b63)) (N L (V b20) L (V b64))
def w44 : T4 Blk := N L (N L L L (V b18)) (N L (V b19) L (V b42)) (N L (V b43) (V b59) (V b65))
def w45 : T4 Blk := N w21 w44 (N (N (V b44) (V b45) (V b66) (V b46)) D1 L (N L D0 L L)) (N (N D0 D0 L L) L L L)
def w46 : T4 Blk := N L w30 w35 (N w36 w37 w38 (N (N L (N D0 D0 L L) L L) w39 L (N L (N L L D0 D0) D1 D1)))
def w47 : T4 Blk := N L (N L L D0 L) (N D0 D0 D0 L) L
def w48 : T4 Blk := N L (N L D0 D0 D0) (N D0 D0 D0 L) L
def w49 : T4 Blk := N (N (N D1 L L L) (N (N L L L D0) (N L L D0 D0) D1 (N D0 D0 D0 L)) L w47) (N L (N L L D1 (N D0 D0 D0 L)) L w48) (N (N L (N L L L D0) L L) (N (N D0 L L L) L (N L L D0 D0) D1) (N L L L (N D0 D0 D0 L)) L) (N w48 (N L (N L L L D0) L L) (N (N D0 L L L) L (N L L D0 D0) (N D0 D0 L L)) L)
def w50 : T4 Blk := N (N L D0 L L) D1 D1 (N D0 D0 L L)
def w51 : T4 Blk := N (N L (N L L L D0) L L) (N L (N L L D0 L) L L) L L
def w52 : T4 Blk := N L (N L L (N L L L D0) (N D0 L L L)) (N L (N D0 L L L) L L) (N L (N L L D0 L) L L)
def w53 : T4 Blk := N (N (N L L L D0) (N L L D0 L) L L) (N (N L L D0 L) L L L) L L
def w54 : T4 Blk := N (N w50 (N L L L D1) (N (N D0 D0 D0 (V b67)) (N D0 L L L) (N L L L D0) L) (N (N (V b68) L L L) L L L)) w51 w52 w53
def w55 : T4 Blk := N L L (N L L D0 D0) (N D0 L L L)
def w56 : T4 Blk := N (N L (N L L D0 D0) (N D0 D0 D0 L) L) w55 (N L L (N D0 L D0 D0) (N D0 L L L)) L
def w57 : T4 Blk := N L L (N L L (N L L L D0) (N L D0 D0 D0)) L
def w58 : T4 Blk := N L (N L L L D0) (N D0 L L L) L
def y4458 : Tr Blk := ⟨N (N w40 (N (N (V b4) L (V b5) L) (N L L L (V b2)) (N L (V b3) L (V b6)) (N L (V b7) (V b52) (V b53))) w41 w42) (N (N L (N L L (V b14) L) (N (V b15) L (V b58) (V b59)) (N (V b60) (V b61) L L)) w43 w6 w9) w19 w45, N w46 (N w49 w54 (N (N L (N L L L D1) L L) w56 w57 (N w58 L L L)) L) L L, L⟩
def e4458 : Fact := .st 7 [p 227 0, u6 5, .string ⟨⟨[107]⟩⟩, s 978 0 1 1] x4458 979 (i6 0) y4458 1737
theorem s4458 : Ev.stOK [] [(0, [.int .u8 0, .int .u8 1, .int .u8 56, .int .u8 2, .int .u8 57, .int .u8 49, .int .u8 28, .int .u8 3, .int .u8 61, .int .u8 58, .int .u8 42, .int .u8 50, .int .u8 38, .int .u8 29, .int .u8 17, .int .u8 4, .int .u8 62, .int .u8 47, .int .u8 59, .int .u8 36, .int .u8 45, .int .u8 43, .int .u8 51, .int .u8 22, .int .u8 53, .int .u8 39, .int .u8 33, .int .u8 30, .int .u8 24, .int .u8 18, .int .u8 12, .int .u8 5, .int .u8 63, .int .u8 55, .int .u8 48, .int .u8 27, .int .u8 60, .int .u8 41, .int .u8 37, .int .u8 16, .int .u8 46, .int .u8 35, .int .u8 44, .int .u8 21, .int .u8 52, .int .u8 32, .int .u8 23, .int .u8 11, .int .u8 54, .int .u8 26, .int .u8 40, .int .u8 15, .int .u8 34, .int .u8 20, .int .u8 31, .int .u8 10, .int .u8 25, .int .u8 14, .int .u8 19, .int .u8 9, .int .u8 13, .int .u8 8, .int .u8 7, .int .u8 6])] Tryz.prog 5000 60 7 [p 227 0, u6 5, .string ⟨⟨[107]⟩⟩, s 978 0 1 1] x4458 979 (i6 0) y4458 = true := by kernel_rfl
theorem h4458 {σ : Nat → Value} {T : List Fact} (hb : ∀ t, isBld t T = isBld t []) : @Fact.Holds ⟨T, [(0, [.int .u8 0, .int .u8 1, .int .u8 56, .int .u8 2, .int .u8 57, .int .u8 49, .int .u8 28, .int .u8 3, .int .u8 61, .int .u8 58, .int .u8 42, .int .u8 50, .int .u8 38, .int .u8 29, .int .u8 17, .int .u8 4, .int .u8 62, .int .u8 47, .int .u8 59, .int .u8 36, .int .u8 45, .int .u8 43, .int .u8 51, .int .u8 22, .int .u8 53, .int .u8 39, .int .u8 33, .int .u8 30, .int .u8 24, .int .u8 18, .int .u8 12, .int .u8 5, .int .u8 63, .int .u8 55, .int .u8 48, .int .u8 27, .int .u8 60, .int .u8 41, .int .u8 37, .int .u8 16, .int .u8 46, .int .u8 35, .int .u8 44, .int .u8 21, .int .u8 52, .int .u8 32, .int .u8 23, .int .u8 11, .int .u8 54, .int .u8 26, .int .u8 40, .int .u8 15, .int .u8 34, .int .u8 20, .int .u8 31, .int .u8 10, .int .u8 25, .int .u8 14, .int .u8 19, .int .u8 9, .int .u8 13, .int .u8 8, .int .u8 7, .int .u8 6])]⟩ Tryz.prog σ e4458 :=
  Fact.stI s4458 (by kernel_rfl) (Ev.hnil) (fun t => (hb t).trans rfl)
def b69 : Blk := .map [⟨u3 0, i6 59, 1⟩] 2
def b70l : List Value := [t, u6 14, p 95 0, p 113 0, p 131 0, p 149 0, p 167 0, p 185 0, p 203 0, p 221 0, .map (some 75), .map (some 76)]
def b70 : Blk := .cells 236 b70l
def b71 : Blk := .map [⟨u3 0, i6 59, 2⟩] 3
def b72l : List Value := [t, u6 15, p 95 0, p 113 0, p 131 0, p 149 0, p 167 0, p 185 0, p 203 0, p 221 0, .map (some 75), .map (some 76)]
def b72 : Blk := .cells 236 b72l
def b73 : Blk := .map [⟨.string ⟨⟨[107]⟩⟩, u6 19, 2⟩] 3
def w59 : T4 Blk := N L (N L L L D0) D1 (N D0 L L L)
def w60 : T4 Blk := N (N L (N L L L D1) L L) w56 w57 (N w59 (N (N L L D0 L) (N L D0 D0 L) L L) (N L L L (N L L D0 L)) (N (N D0 D0 D0 L) L L L))
def w61 : T4 Blk := N L (N L L L D0) (N D0 D0 D0 L) L
def w62 : T4 Blk := N (N L D0 D0 D0) (N D0 D0 D0 L) L L
def w63 : T4 Blk := N L (N L L D0 D0) (N D0 L L L) L
def w64 : T4 Blk := N (N w61 L w62 (N (N L L L D0) L L (N D0 L L L))) (N w63 (N (N L D0 D0 L) L L L) (N (N L D0 D0 D0) D1 (N D0 D0 L L) (N L L L D0)) (N (N D0 D0 L L) L L D1)) (N L L (N L L L (N L L L D0)) L) (N (N L L L (N L L D0 L)) L (N L L (N L L D0 D0) (N D0 D0 D0 L)) L)
def w65 : T4 Blk := N w49 w54 w60 w64
def w66 : T4 Blk := N w32 (N (N D0 D0 D0 L) L L L) L L
def x4964 : Tr Blk := ⟨N (N w40 (N (N (V b4) L (V b5) L) (N L L L (V b2)) (N L (V b3) L (V b6)) (N L (V b7) (V b69) (V b53))) w41 w42) (N (N L (N L L (V b14) L) (N (V b15) L (V b58) (V b59)) (N (V b60) (V b70) L L)) w43 w6 w9) w19 w45, N w46 w65 (N (N w66 (N L w33 L (N (N L L D0 D0) L L L)) L L) L L L) L, L⟩
def w67 : T4 Blk := N w21 w44 (N (N (V b44) (V b45) (V b73) (V b46)) D1 L (N L D0 L L)) (N (N D0 D0 L L) L L L)
def w68 : T4 Blk := N (N L L D0 L) (N D0 D0 D0 L) L L
def w69 : T4 Blk := N (N (N D0 L L L) (N L L D0 L) (N L D0 D0 L) L) L w68 (N L L (N L L L D0) (N D0 D0 D0 L))
def w70 : T4 Blk := N L w48 (N L (N L L L D0) L L) (N (N D0 L L L) L (N L L D0 D0) (N D0 L L L))
def w71 : T4 Blk := N w66 (N L w33 L (N (N L L D0 D0) L L (N L D0 D0 D0))) w69 w70
def w72 : T4 Blk := N (N L L L D0) (N D0 D0 L L) L L
def w73 : T4 Blk := N (N L (N L D0 D0 L) L L) (N L (N L D0 D0 D0) D1 (N D0 D0 L L)) w72 (N D1 L L L)
def w74 : T4 Blk := N L L (N (N L L L D0) L L L) L
def w75 : T4 Blk := N (N (N L L D0 L) L L L) (N L L L (N L L D0 D0)) (N (N D0 D0 D0 L) L L L) (N L (N D0 D0 D0 L) L L)
def w76 : T4 Blk := N w68 L L L
def w77 : T4 Blk := N w73 w74 w75 w76
def w78 : T4 Blk := N L (N L D0 L D0) (N D0 D0 L L) L
def w79 : T4 Blk := N w78 L (N L (N L L D0 D0) L L) L
def y4964 : Tr Blk := ⟨N (N w40 (N (N (V b4) L (V b5) L) (N L L L (V b2)) (N L (V b3) L (V b6)) (N L (V b7) (V b71) (V b53))) w41 w42) (N (N L (N L L (V b14) L) (N (V b15) L (V b58) (V b59)) (N (V b60) (V b72) L L)) w43 w6 w9) w19 w67, N w46 w65 (N w71 w77 (N w79 L L L) L) L, L⟩
def e4964 : Fact := .st 14 [p 227 0, u6 15, i6 3, .string ⟨⟨[118]⟩⟩] x4964 2173 (t) y4964 2621
theorem s4964 : Ev.stOK [] [(0, [.int .u8 0, .int .u8 1, .int .u8 56, .int .u8 2, .int .u8 57, .int .u8 49, .int .u8 28, .int .u8 3, .int .u8 61, .int .u8 58, .int .u8 42, .int .u8 50, .int .u8 38, .int .u8 29, .int .u8 17, .int .u8 4, .int .u8 62, .int .u8 47, .int .u8 59, .int .u8 36, .int .u8 45, .int .u8 43, .int .u8 51, .int .u8 22, .int .u8 53, .int .u8 39, .int .u8 33, .int .u8 30, .int .u8 24, .int .u8 18, .int .u8 12, .int .u8 5, .int .u8 63, .int .u8 55, .int .u8 48, .int .u8 27, .int .u8 60, .int .u8 41, .int .u8 37, .int .u8 16, .int .u8 46, .int .u8 35, .int .u8 44, .int .u8 21, .int .u8 52, .int .u8 32, .int .u8 23, .int .u8 11, .int .u8 54, .int .u8 26, .int .u8 40, .int .u8 15, .int .u8 34, .int .u8 20, .int .u8 31, .int .u8 10, .int .u8 25, .int .u8 14, .int .u8 19, .int .u8 9, .int .u8 13, .int .u8 8, .int .u8 7, .int .u8 6])] Tryz.prog 5000 60 14 [p 227 0, u6 15, i6 3, .string ⟨⟨[118]⟩⟩] x4964 2173 (t) y4964 = true := by kernel_rfl
theorem h4964 {σ : Nat → Value} {T : List Fact} (hb : ∀ t, isBld t T = isBld t []) : @Fact.Holds ⟨T, [(0, [.int .u8 0, .int .u8 1, .int .u8 56, .int .u8 2, .int .u8 57, .int .u8 49, .int .u8 28, .int .u8 3, .int .u8 61, .int .u8 58, .int .u8 42, .int .u8 50, .int .u8 38, .int .u8 29, .int .u8 17, .int .u8 4, .int .u8 62, .int .u8 47, .int .u8 59, .int .u8 36, .int .u8 45, .int .u8 43, .int .u8 51, .int .u8 22, .int .u8 53, .int .u8 39, .int .u8 33, .int .u8 30, .int .u8 24, .int .u8 18, .int .u8 12, .int .u8 5, .int .u8 63, .int .u8 55, .int .u8 48, .int .u8 27, .int .u8 60, .int .u8 41, .int .u8 37, .int .u8 16, .int .u8 46, .int .u8 35, .int .u8 44, .int .u8 21, .int .u8 52, .int .u8 32, .int .u8 23, .int .u8 11, .int .u8 54, .int .u8 26, .int .u8 40, .int .u8 15, .int .u8 34, .int .u8 20, .int .u8 31, .int .u8 10, .int .u8 25, .int .u8 14, .int .u8 19, .int .u8 9, .int .u8 13, .int .u8 8, .int .u8 7, .int .u8 6])]⟩ Tryz.prog σ e4964 :=
  Fact.stI s4964 (by kernel_rfl) (Ev.hnil) (fun t => (hb t).trans rfl)
end Go.Proofs.YtjefafgnkaenbaaGreatDoor.Q41known
