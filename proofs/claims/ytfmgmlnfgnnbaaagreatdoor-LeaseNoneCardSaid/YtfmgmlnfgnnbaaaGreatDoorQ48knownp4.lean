/-
  The examples of a chapter, part 4: calls that are evaluated from a heap to a heap.
-/
import Derived.Test.YtfmgmlnfgnnbaaaGreatDoorQ48knownp3
namespace Go.Proofs.YtfmgmlnfgnnbaaaGreatDoor.Q48known
open Go Go.RowKit Go.Proofs.YtfmgmlnfgnnbaaaGreatDoor.Ev Go.Proofs.YtfmgmlnfgnnbaaaGreatDoor.Ev.Sh
set_option maxRecDepth 100000
def b39l : List Value := [i6 5, i6 1000, i6 0, u6 0, f, p 49 0, p 69 0, p 221 0, p 28 0, p 29 0, p 222 0]
def b39 : Blk := .cells 92 b39l
def b40l : List Value := [t, u6 0, p 92 0, p 110 0, p 128 0, p 146 0, p 164 0, p 182 0, p 200 0, p 218 0, .map (some 72), .map (some 73)]
def b40 : Blk := .cells 269 b40l
def b41l : List Value := [i6 1, s 212 0 257 257, s 214 0 256 256]
def b41 : Blk := .cells 348 b41l
def b42l : List Value := [p 216 0, u6 0, u6 0, u6 0, u6 0, i6 0]
def b42 : Blk := .cells 344 b42l
def b43l : List Value := [p 74 0, .map (some 219), .map (some 220)]
def b43 : Blk := .cells 187 b43l
def b44l : List Value := r 6 (u6 0) ([t, pn, pn, i6 0])
def b44 : Blk := .cells 135 b44l
def b45l : List Value := [p 46 0, u6 5, i6 0, .map (some 223), .map (some 224)]
def b45 : Blk := .cells 33 b45l
def x1 : Tr Blk := ⟨L, L, L⟩
def y1 : Tr Blk := ⟨N (N (N D1 (N D0 L L L) (N L (V b1) L (V b2)) (N L (V b3) L (V b4))) (N L (N (V b1) L (V b2) L) (N (V b5) L (V b6) (V b7)) (N (V b8) (V b9) L L)) (N L L L (N L L (V b39) L)) (N (N L (V b10) D0 D0) (N (V b11) (V b12) L L) L L)) (N (N (N L L L (V b13)) (N L (V b14) L (V b15)) (N (V b7) (V b7) (V b40) L) L) (N L (N L L (V b17) L) (N (V b18) L (V b19) L) (N (V b20) L L L)) (N L L (N (V b17) L (V b18) L) (N (V b22) L (V b23) L)) (N L L (N L L (V b17) L) (N (V b18) L (V b25) L))) (N (N (N (V b26) L L L) L L (N (V b17) L (V b18) L)) (N (N (V b28) L (V b29) L) L L (N L L (V b17) L)) (N (N (V b18) L (V b31) L) (N (V b32) L L L) L L) (N (N (V b17) L (V b18) L) (N (V b34) L (V b35) L) L L)) (N (N (N L L (V b17) L) (N (V b18) L (V b37) L) (N (V b38) L L L) L) (N L (N (V b17) L (V b18) L) (N (V b41) L (V b42) (V b7)) (N (V b7) (V b43) (V b44) (V b7))) (N (N (V b7) (V b45) L L) L L L) L), L, L⟩
def e1 : Fact := .st 14 [.agg ⟨[i6 5, i6 1000, i6 0, u6 0, f]⟩, u6 5] x1 0 (.tuple ⟨[p 225 0, i6 0]⟩) y1 226
theorem s1 : Ev.stOK [e29, e543, e1057, e1571, e2085, e2599, e3113] [(0, [.int .u8 0, .int .u8 1, .int .u8 56, .int .u8 2, .int .u8 57, .int .u8 49, .int .u8 28, .int .u8 3, .int .u8 61, .int .u8 58, .int .u8 42, .int .u8 50, .int .u8 38, .int .u8 29, .int .u8 17, .int .u8 4, .int .u8 62, .int .u8 47, .int .u8 59, .int .u8 36, .int .u8 45, .int .u8 43, .int .u8 51, .int .u8 22, .int .u8 53, .int .u8 39, .int .u8 33, .int .u8 30, .int .u8 24, .int .u8 18, .int .u8 12, .int .u8 5, .int .u8 63, .int .u8 55, .int .u8 48, .int .u8 27, .int .u8 60, .int .u8 41, .int .u8 37, .int .u8 16, .int .u8 46, .int .u8 35, .int .u8 44, .int .u8 21, .int .u8 52, .int .u8 32, .int .u8 23, .int .u8 11, .int .u8 54, .int .u8 26, .int .u8 40, .int .u8 15, .int .u8 34, .int .u8 20, .int .u8 31, .int .u8 10, .int .u8 25, .int .u8 14, .int .u8 19, .int .u8 9, .int .u8 13, .int .u8 8, .int .u8 7, .int .u8 6])] Tryz.prog 5000 60 14 [.agg ⟨[i6 5, i6 1000, i6 0, u6 0, f]⟩, u6 5] x1 0 (.tuple ⟨[p 225 0, i6 0]⟩) y1 = true := by kernel_rfl
theorem h1 {σ : Nat → Value} {T : List Fact} (hb : ∀ t, isBld t T = isBld t []) : @Fact.Holds ⟨T, [(0, [.int .u8 0, .int .u8 1, .int .u8 56, .int .u8 2, .int .u8 57, .int .u8 49, .int .u8 28, .int .u8 3, .int .u8 61, .int .u8 58, .int .u8 42, .int .u8 50, .int .u8 38, .int .u8 29, .int .u8 17, .int .u8 4, .int .u8 62, .int .u8 47, .int .u8 59, .int .u8 36, .int .u8 45, .int .u8 43, .int .u8 51, .int .u8 22, .int .u8 53, .int .u8 39, .int .u8 33, .int .u8 30, .int .u8 24, .int .u8 18, .int .u8 12, .int .u8 5, .int .u8 63, .int .u8 55, .int .u8 48, .int .u8 27, .int .u8 60, .int .u8 41, .int .u8 37, .int .u8 16, .int .u8 46, .int .u8 35, .int .u8 44, .int .u8 21, .int .u8 52, .int .u8 32, .int .u8 23, .int .u8 11, .int .u8 54, .int .u8 26, .int .u8 40, .int .u8 15, .int .u8 34, .int .u8 20, .int .u8 31, .int .u8 10, .int .u8 25, .int .u8 14, .int .u8 19, .int .u8 9, .int .u8 13, .int .u8 8, .int .u8 7, .int .u8 6])]⟩ Tryz.prog σ e1 :=
  Fact.stI s1 (by kernel_rfl) (Ev.hcons (h29 (fun _ => rfl)) (Ev.hcons (h543 (fun _ => rfl)) (Ev.hcons (h1057 (fun _ => rfl)) (Ev.hcons (h1571 (fun _ => rfl)) (Ev.hcons (h2085 (fun _ => rfl)) (Ev.hcons (h2599 (fun _ => rfl)) (Ev.hcons (h3113 (fun _ => rfl)) (Ev.hnil)))))))) (fun t => (hb t).trans rfl)
def b46l : List Value := [t, u6 6, p 92 0, p 110 0, p 128 0, p 146 0, p 164 0, p 182 0, p 200 0, p 218 0, .map (some 72), .map (some 73)]
def b46 : Blk := .cells 269 b46l
def b47 : Blk := .map [⟨.string ⟨⟨[107]⟩⟩, .agg ⟨[i6 2, .string ⟨⟨[107]⟩⟩, u6 10]⟩, 1⟩] 2
def b48 : Blk := .map [⟨i6 2, .string ⟨⟨[107]⟩⟩, 1⟩] 2
def b49l : List Value := [p 46 0, u6 5, i6 2, .map (some 223), .map (some 224)]
def b49 : Blk := .cells 33 b49l
def b50l : List Value := [u1 111, u1 108, u1 100]
def b50 : Blk := .cells 5 b50l
def b51l : List Value := [u1 118]
def b51 : Blk := .cells 5 b51l
def b52l : List Value := [u3 1, u3 1, .int .i32 (.ofNat 0), u3 0, u3 0, .int .i32 (.ofNat 0)]
def b52 : Blk := .cells 351 b52l
def b53l : List Value := [i6 1]
def b53 : Blk := .cells 3 b53l
def b54 : Blk := .map [⟨u3 0, i6 50, 0⟩] 1
def b55l : List Value := [t, .int .i64 (.negSucc 0), p 15 0, p 26 0, .map (some 27), i6 50, i6 0]
def b55 : Blk := .cells 196 b55l
def b56l : List Value := [i6 5, i6 1000, i6 1, i6 50, i6 0, i6 0]
def b56 : Blk := .cells 202 b56l
def b57l : List Value := [t, u6 1]
def b57 : Blk := .cells 171 b57l
def b58l : List Value := ([u6 9259542123273814037] ++ r 8 (u3 0) ([]))
def b58 : Blk := .cells 310 b58l
def b59l : List Value := [s 52 0 1 1, i6 1, i6 0]
def b59 : Blk := .cells 264 b59l
def b60l : List Value := [t, i6 1, g 1720 0 4 1 1]
def b60 : Blk := .cells 260 b60l
def b61 : Blk := .map [⟨u3 0, .agg ⟨[u3 0, u6 9, u6 1]⟩, 0⟩] 1
def b62 : Blk := .map [⟨u6 1, .agg ⟨[]⟩, 0⟩] 1
def b63l : List Value := (((((b17l).set 0 (u3 10)).set 1 (u3 10)).set 2 (.int .i32 (.ofNat 9))).set 30 (u3 0)).set 31 (u3 0)
def b63 : Blk := .cells 351 b63l
def b64l : List Value := (b18l).set 9 (i6 1)
def b64 : Blk := .cells 3 b64l
def b65l : List Value := [p 90 0, u6 512, u6 0, u6 0, u6 0, i6 1]
def b65 : Blk := .cells 344 b65l
def b66 : Blk := .map [⟨u6 1, u3 0, 0⟩] 1
def b67 : Blk := .map [] 2
def b68l : List Value := [.string ⟨⟨[107]⟩⟩, g 1707 0 1 1 1, u6 9, u6 1]
def b68 : Blk := .cells 103 b68l
def x4535 : Tr Blk := ⟨N (N (N D1 (N D0 L L L) (N L (V b1) L (V b2)) (N L (V b3) L (V b4))) (N L (N (V b1) L (V b2) L) (N (V b5) L (V b6) (V b7)) (N (V b8) (V b9) L L)) (N L L L (N L L (V b39) L)) (N (N L (V b10) D0 D0) (N (V b11) (V b12) L L) L L)) (N (N (N L L L (V b13)) (N L (V b14) L (V b15)) (N (V b7) (V b7) (V b46) L) L) (N L (N L L (V b17) L) (N (V b18) L (V b19) L) (N (V b20) L L L)) (N L L (N (V b17) L (V b18) L) (N (V b22) L (V b23) L)) (N L L (N L L (V b17) L) (N (V b18) L (V b25) L))) (N (N (N (V b26) L L L) L L (N (V b17) L (V b18) L)) (N (N (V b28) L (V b29) L) L L (N L L (V b17) L)) (N (N (V b18) L (V b31) L) (N (V b32) L L L) L L) (N (N (V b17) L (V b18) L) (N (V b34) L (V b35) L) L L)) (N (N (N L L (V b17) L) (N (V b18) L (V b37) L) (N (V b38) L L L) L) (N L (N (V b17) L (V b18) L) (N (V b41) L (V b42) (V b7)) (N (V b7) (V b43) (V b44) (V b47))) (N (N (V b48) (V b49) L L) L L L) (N (N L L L D0) D1 L (N L D0 L L))), N (N L (N (N (N (N D0 D0 L L) L L L) (N L L (N L D0 L D0) (N D0 D0 L L)) L (N (N L L D0 D0) (N D0 D0 L L) L L)) (N (N L L L D1) (N (N D0 D0 L L) L L (N L L D0 L)) (N L (N L L L D0) L L) (N (N L D0 D0 D0) (N D0 L L L) L L)) (N (N (N D0 L D0 D0) (N D0 L L L) L L) L L L) (N (N (N L L L D0) (N L D0 D0 D0) L L) (N (N L L L D0) (N D0 L L L) L L) L L)) (N (N L (N (N L D0 D0 D0) (N D0 D0 L L) (N L L L D0) (N L L D0 D0)) L (N L (N L L L D0) (N L D0 D0 D0) L)) (N L (N D1 L L L) (N L L (N L L D0 D0) D1) (N L L L (N D0 L L L))) (N (N L (N L D0 L L) L (N L L L D0)) (N (N D0 D0 D0 L) L L (N L L D0 L)) (N (N D0 D0 D0 L) L L L) L) (N L L (N (N L D0 L D0) (N D0 D0 L L) L L) (N (N L D0 D0 L) L (N L L L D0) L))) (N (N (N L L L (N L D0 D0 D0)) (N (N D0 D0 L L) (N L L L D0) (N L L D0 D0) L) L (N (N L L L D0) (N L D0 D0 D0) L L)) (N (N L L L D1) L (N L (N L L D0 D0) D1 L) (N L L (N D0 L L L) L)) (N (N (N L D0 L L) L (N L L L D0) (N D0 D0 D0 L)) (N L L (N L L D0 L) (N D0 D0 D0 L)) L L) (N L (N L L L (N L D0 L D0)) (N (N D0 D0 L L) L L (N L D0 D0 L)) (N L (N L L L D0) L L)))) (N (N (N (N L (N L L D0 L) L L) L L (N (N L L (V b50) D0) L L L)) (N (N L (N L D0 D0 D0) L L) (N L L L (N L L L D0)) (N (N L D0 D0 D0) L L L) L) (N (N (N L L L D0) (N L D0 D0 D0) L L) L L L) (N (N L (N L L D0 L) (N D0 D0 D0 L) L) (N (N L D0 D0 L) L (N L L L D0) (N D0 (V b51) L L)) L L)) L L L) L L, L⟩
def y4535 : Tr Blk := ⟨N (N (N D1 (N D0 L L L) (N L (V b52) L (V b53)) (N L (V b3) L (V b4))) (N L (N (V b1) L (V b2) L) (N (V b5) L (V b6) (V b54)) (N (V b55) (V b56) L L)) (N L L L (N L L (V b39) L)) (N (N L (V b57) D0 D0) (N (V b58) (V b59) L L) L L)) (N (N (N L L L (V b13)) (N L (V b14) L (V b60)) (N (V b61) (V b62) (V b46) L) L) (N L (N L L (V b63) L) (N (V b64) L (V b19) L) (N (V b65) L L L)) (N L L (N (V b17) L (V b18) L) (N (V b22) L (V b23) L)) (N L L (N L L (V b17) L) (N (V b18) L (V b25) L))) (N (N (N (V b26) L L L) L L (N (V b17) L (V b18) L)) (N (N (V b28) L (V b29) L) L L (N L L (V b17) L)) (N (N (V b18) L (V b31) L) (N (V b32) L L L) L L) (N (N (V b17) L (V b18) L) (N (V b34) L (V b35) L) L L)) (N (N (N L L (V b17) L) (N (V b18) L (V b37) L) (N (V b38) L L L) L) (N L (N (V b17) L (V b18) L) (N (V b41) L (V b42) (V b61)) (N (V b66) (V b43) (V b44) (V b67))) (N (N (V b67) (V b49) L L) L L L) (N (N L L L D0) D1 L (N L D0 L L))), N (N L (N (N (N (N D0 D0 L L) L L L) (N L L (N L D0 L D0) (N D0 D0 L L)) L (N (N L L D0 D0) (N D0 D0 L L) L L)) (N (N L L L D1) (N (N D0 D0 L L) L L (N L L D0 L)) (N L (N L L L D0) L L) (N (N L D0 D0 D0) (N D0 L L L) L L)) (N (N (N D0 L D0 D0) (N D0 L L L) L L) L L L) (N (N (N L L L D0) (N L D0 D0 D0) L L) (N (N L L L D0) (N D0 L L L) L L) L L)) (N (N L (N (N L D0 D0 D0) (N D0 D0 L L) (N L L L D0) (N L L D0 D0)) L (N L (N L L L D0) (N L D0 D0 D0) L)) (N L (N D1 L L L) (N L L (N L L D0 D0) D1) (N L L L (N D0 L L L))) (N (N L (N L D0 L L) L (N L L L D0)) (N (N D0 D0 D0 L) L L (N L L D0 L)) (N (N D0 D0 D0 L) L L L) L) (N L L (N (N L D0 L D0) (N D0 D0 L L) L L) (N (N L D0 D0 L) L (N L L L D0) L))) (N (N (N L L L (N L D0 D0 D0)) (N (N D0 D0 L L) (N L L L D0) (N L L D0 D0) L) L (N (N L L L D0) (N L D0 D0 D0) L L)) (N (N L L L D1) L (N L (N L L D0 D0) D1 L) (N L L (N D0 L L L) L)) (N (N (N L D0 L L) L (N L L L D0) (N D0 D0 D0 L)) (N L L (N L L D0 L) (N D0 D0 D0 L)) L L) (N L (N L L L (N L D0 L D0)) (N (N D0 D0 L L) L L (N L D0 D0 L)) (N L (N L L L D0) L L)))) (N (N (N (N L (N L L D0 L) L L) L L (N (N L L (V b50) D0) L L L)) (N (N L (N L D0 D0 D0) L L) (N L L L (N L L L D0)) (N (N L D0 D0 D0) L L L) L) (N (N (N L L L D0) (N L D0 D0 D0) L L) L L L) (N (N L (N L L D0 L) (N D0 D0 D0 L) L) (N (N L D0 D0 L) L (N L L L D0) (N D0 (V b51) D0 L)) L (N (N D0 D0 D0 L) L L L))) (N (N (N L L (N L L D0 L) (N D0 D0 D0 L)) L (N L L L (N L L D0 L)) (N (N D0 D0 D0 L) L L L)) (N L L L (N (N L D0 L D0) (N D0 D0 L L) L (N D0 D0 L L))) (N (N L (N L L D0 D0) D1 L) (N L L (N L L L D0) (N L L D0 D0)) (N D1 (N D0 D0 D0 L) L L) (N L L L (N L L D0 L))) (N (N (N D0 D0 D0 L) L L L) L (N D1 (N D0 D0 D0 L) L L) (N L L L (N L D0 D0 D0)))) (N (N (N (N D0 D0 D0 L) L L (N L L L D0)) (N L L (N D0 L L L) L) (N (N L L D0 D0) D1 L L) (N L (N D0 D0 D0 L) L L)) (N (N L L L (N L D0 D0 D0)) (N (N D0 D0 D0 L) L L (N L L L D0)) (N L L (N D0 L L L) L) (N (N L L D0 D0) (N D0 D0 L L) L L)) (N (N L L (N L D0 L L) D1) (N D1 (N D0 D0 L L) L L) (N L D1 (N D0 D0 D0 (V b51)) (N D0 L L L)) (N (N L L L D0) L (N (V b68) L L L) L)) (N (N L L L (N L L L D0)) (N L L L (N L L D0 L)) L L)) (N (N L L (N (N L L L D0) (N D0 L L L) L (N D0 L L L)) (N L L L (N L L D0 L))) (N (N L L (N L L L D0) (N L L D0 L)) (N L L (N L L D0 L) L) L L) (N L L (N L D1 L L) L) (N (N L L L (N L L D0 D0)) (N (N D0 D0 D0 L) L L L) (N (N L L D0 D0) (N D0 L L L) L L) (N (N D0 L D0 D0) (N D0 L L L) L L)))) (N (N (N L L L (N (N L L L D0) (N L D0 D0 D0) L (N L L D0 D0))) (N (N L L L (N L L D0 L)) L L L) L L) L L L) L, L⟩
def e4535 : Fact := .st 7 [p 225 0, u6 6, i6 2, s 1245 0 1 1, u6 3] x4535 1246 (i6 0) y4535 2127
theorem s4535 : Ev.stOK [] [(0, [.int .u8 0, .int .u8 1, .int .u8 56, .int .u8 2, .int .u8 57, .int .u8 49, .int .u8 28, .int .u8 3, .int .u8 61, .int .u8 58, .int .u8 42, .int .u8 50, .int .u8 38, .int .u8 29, .int .u8 17, .int .u8 4, .int .u8 62, .int .u8 47, .int .u8 59, .int .u8 36, .int .u8 45, .int .u8 43, .int .u8 51, .int .u8 22, .int .u8 53, .int .u8 39, .int .u8 33, .int .u8 30, .int .u8 24, .int .u8 18, .int .u8 12, .int .u8 5, .int .u8 63, .int .u8 55, .int .u8 48, .int .u8 27, .int .u8 60, .int .u8 41, .int .u8 37, .int .u8 16, .int .u8 46, .int .u8 35, .int .u8 44, .int .u8 21, .int .u8 52, .int .u8 32, .int .u8 23, .int .u8 11, .int .u8 54, .int .u8 26, .int .u8 40, .int .u8 15, .int .u8 34, .int .u8 20, .int .u8 31, .int .u8 10, .int .u8 25, .int .u8 14, .int .u8 19, .int .u8 9, .int .u8 13, .int .u8 8, .int .u8 7, .int .u8 6])] Tryz.prog 5000 60 7 [p 225 0, u6 6, i6 2, s 1245 0 1 1, u6 3] x4535 1246 (i6 0) y4535 = true := by kernel_rfl
theorem h4535 {σ : Nat → Value} {T : List Fact} (hb : ∀ t, isBld t T = isBld t []) : @Fact.Holds ⟨T, [(0, [.int .u8 0, .int .u8 1, .int .u8 56, .int .u8 2, .int .u8 57, .int .u8 49, .int .u8 28, .int .u8 3, .int .u8 61, .int .u8 58, .int .u8 42, .int .u8 50, .int .u8 38, .int .u8 29, .int .u8 17, .int .u8 4, .int .u8 62, .int .u8 47, .int .u8 59, .int .u8 36, .int .u8 45, .int .u8 43, .int .u8 51, .int .u8 22, .int .u8 53, .int .u8 39, .int .u8 33, .int .u8 30, .int .u8 24, .int .u8 18, .int .u8 12, .int .u8 5, .int .u8 63, .int .u8 55, .int .u8 48, .int .u8 27, .int .u8 60, .int .u8 41, .int .u8 37, .int .u8 16, .int .u8 46, .int .u8 35, .int .u8 44, .int .u8 21, .int .u8 52, .int .u8 32, .int .u8 23, .int .u8 11, .int .u8 54, .int .u8 26, .int .u8 40, .int .u8 15, .int .u8 34, .int .u8 20, .int .u8 31, .int .u8 10, .int .u8 25, .int .u8 14, .int .u8 19, .int .u8 9, .int .u8 13, .int .u8 8, .int .u8 7, .int .u8 6])]⟩ Tryz.prog σ e4535 :=
  Fact.stI s4535 (by kernel_rfl) (Ev.hnil) (fun t => (hb t).trans rfl)
end Go.Proofs.YtfmgmlnfgnnbaaaGreatDoor.Q48known
