/-
  The examples of a chapter, part 4: calls that are evaluated from a heap to a heap.
-/
import Derived.Test.YthpgjakenfhgfaaGreatDoorQ25knownp3
namespace Go.Proofs.YthpgjakenfhgfaaGreatDoor.Q25known
open Go Go.RowKit Go.Proofs.YthpgjakenfhgfaaGreatDoor.Ev Go.Proofs.YthpgjakenfhgfaaGreatDoor.Ev.Sh
set_option maxRecDepth 100000
def b39l : List Value := [i6 1024, i6 1048576, i6 80, u6 0, f, p 50 0, p 70 0, p 222 0, p 29 0, p 30 0, p 223 0]
def b39 : Blk := .cells 54 b39l
def b40l : List Value := [t, u6 0, p 93 0, p 111 0, p 129 0, p 147 0, p 165 0, p 183 0, p 201 0, p 219 0, .map (some 73), .map (some 74)]
def b40 : Blk := .cells 179 b40l
def b41l : List Value := [i6 1, s 213 0 257 257, s 215 0 256 256]
def b41 : Blk := .cells 242 b41l
def b42l : List Value := [p 217 0, u6 0, u6 0, u6 0, u6 0, i6 0]
def b42 : Blk := .cells 239 b42l
def b43l : List Value := [p 75 0, .map (some 220), .map (some 221)]
def b43 : Blk := .cells 119 b43l
def b44l : List Value := r 6 (u6 0) ([t, pn, pn, i6 0])
def b44 : Blk := .cells 142 b44l
def b45l : List Value := ([p 47 0] ++ r 65 (u6 0) ([]))
def b45 : Blk := .cells 28 b45l
def x2 : Tr Blk := ⟨N (N (N (N D0 L L L) L L L) L L L) L L L, L, L⟩
def y2 : Tr Blk := ⟨N (N (N D1 (N D0 D0 L L) (N L L (V b1) L) (N (V b2) L (V b3) L)) (N (N (V b4) L L L) (N L (V b1) L (V b2)) (N L (V b5) L (V b6)) (N (V b7) (V b8) (V b9) L)) (N L L L (N L L L (V b39))) (N (N L L (V b10) D0) (N D0 (V b11) (V b12) L) L L)) (N (N L (N (V b13) L (V b14) L) (N (V b15) (V b7) (V b7) (V b40)) L) (N L (N L L L (V b17)) (N L (V b18) L (V b19)) (N L (V b20) L L)) (N L L (N L (V b17) L (V b18)) (N L (V b22) L (V b23))) (N L L (N L L L (V b17)) (N L (V b18) L (V b25)))) (N (N (N L (V b26) L L) L L (N L (V b17) L (V b18))) (N (N L (V b28) L (V b29)) L L (N L L L (V b17))) (N (N L (V b18) L (V b31)) (N L (V b32) L L) L L) (N (N L (V b17) L (V b18)) (N L (V b34) L (V b35)) L L)) (N (N (N L L L (V b17)) (N L (V b18) L (V b37)) (N L (V b38) L L) L) (N L (N L (V b17) L (V b18)) (N L (V b41) L (V b42)) (N (V b7) (V b7) (V b43) (V b44))) (N (N D0 (V b45) D0 D0) (N D0 D0 L L) L L) L), L, L⟩
def e2 : Fact := .st 24 [.agg ⟨[i6 1024, i6 1048576, i6 80, u6 0, f]⟩] x2 1 (.tuple ⟨[p 47 0, p 225 0]⟩) y2 230
theorem s2 : Ev.stOK [e30, e544, e1058, e1572, e2086, e2600, e3114] [(0, [.int .u8 0, .int .u8 1, .int .u8 56, .int .u8 2, .int .u8 57, .int .u8 49, .int .u8 28, .int .u8 3, .int .u8 61, .int .u8 58, .int .u8 42, .int .u8 50, .int .u8 38, .int .u8 29, .int .u8 17, .int .u8 4, .int .u8 62, .int .u8 47, .int .u8 59, .int .u8 36, .int .u8 45, .int .u8 43, .int .u8 51, .int .u8 22, .int .u8 53, .int .u8 39, .int .u8 33, .int .u8 30, .int .u8 24, .int .u8 18, .int .u8 12, .int .u8 5, .int .u8 63, .int .u8 55, .int .u8 48, .int .u8 27, .int .u8 60, .int .u8 41, .int .u8 37, .int .u8 16, .int .u8 46, .int .u8 35, .int .u8 44, .int .u8 21, .int .u8 52, .int .u8 32, .int .u8 23, .int .u8 11, .int .u8 54, .int .u8 26, .int .u8 40, .int .u8 15, .int .u8 34, .int .u8 20, .int .u8 31, .int .u8 10, .int .u8 25, .int .u8 14, .int .u8 19, .int .u8 9, .int .u8 13, .int .u8 8, .int .u8 7, .int .u8 6])] Tryz.prog 5000 60 24 [.agg ⟨[i6 1024, i6 1048576, i6 80, u6 0, f]⟩] x2 1 (.tuple ⟨[p 47 0, p 225 0]⟩) y2 = true := by kernel_rfl
theorem h2 {σ : Nat → Value} {T : List Fact} (hb : ∀ t, isBld t T = isBld t []) : @Fact.Holds ⟨T, [(0, [.int .u8 0, .int .u8 1, .int .u8 56, .int .u8 2, .int .u8 57, .int .u8 49, .int .u8 28, .int .u8 3, .int .u8 61, .int .u8 58, .int .u8 42, .int .u8 50, .int .u8 38, .int .u8 29, .int .u8 17, .int .u8 4, .int .u8 62, .int .u8 47, .int .u8 59, .int .u8 36, .int .u8 45, .int .u8 43, .int .u8 51, .int .u8 22, .int .u8 53, .int .u8 39, .int .u8 33, .int .u8 30, .int .u8 24, .int .u8 18, .int .u8 12, .int .u8 5, .int .u8 63, .int .u8 55, .int .u8 48, .int .u8 27, .int .u8 60, .int .u8 41, .int .u8 37, .int .u8 16, .int .u8 46, .int .u8 35, .int .u8 44, .int .u8 21, .int .u8 52, .int .u8 32, .int .u8 23, .int .u8 11, .int .u8 54, .int .u8 26, .int .u8 40, .int .u8 15, .int .u8 34, .int .u8 20, .int .u8 31, .int .u8 10, .int .u8 25, .int .u8 14, .int .u8 19, .int .u8 9, .int .u8 13, .int .u8 8, .int .u8 7, .int .u8 6])]⟩ Tryz.prog σ e2 :=
  Fact.stI s2 (by kernel_rfl) (Ev.hcons (h30 (fun _ => rfl)) (Ev.hcons (h544 (fun _ => rfl)) (Ev.hcons (h1058 (fun _ => rfl)) (Ev.hcons (h1572 (fun _ => rfl)) (Ev.hcons (h2086 (fun _ => rfl)) (Ev.hcons (h2600 (fun _ => rfl)) (Ev.hcons (h3114 (fun _ => rfl)) (Ev.hnil)))))))) (fun t => (hb t).trans rfl)
def b46l : List Value := [u3 1, u3 1, .int .i32 (.ofNat 0), u3 0, u3 0, .int .i32 (.ofNat 0)]
def b46 : Blk := .cells 245 b46l
def b47l : List Value := [i6 1]
def b47 : Blk := .cells 3 b47l
def b48 : Blk := .map [⟨u3 0, i6 49, 0⟩] 1
def b49l : List Value := [t, i6 838860, p 16 0, p 27 0, .map (some 28), i6 49, i6 0]
def b49 : Blk := .cells 130 b49l
def b50l : List Value := [i6 1024, i6 1048576, i6 1, i6 49, i6 0, i6 0]
def b50 : Blk := .cells 136 b50l
def b51l : List Value := [t, u6 1]
def b51 : Blk := .cells 103 b51l
def b52l : List Value := ([u6 9259542123273814047] ++ r 8 (u3 0) ([]))
def b52 : Blk := .cells 299 b52l
def b53l : List Value := [s 53 0 1 1, i6 1, i6 0]
def b53 : Blk := .cells 174 b53l
def b54l : List Value := [t, i6 1, g 532 0 4 1 1]
def b54 : Blk := .cells 170 b54l
def b55l : List Value := [t, u6 5, p 93 0, p 111 0, p 129 0, p 147 0, p 165 0, p 183 0, p 201 0, p 219 0, .map (some 73), .map (some 74)]
def b55 : Blk := .cells 179 b55l
def b56 : Blk := .map [⟨u3 0, .agg ⟨[u3 0, u6 18446744073709551615, u6 1]⟩, 0⟩] 1
def b57 : Blk := .map [⟨u6 1, u3 0, 0⟩] 1
def b58l : List Value := [.string ⟨⟨[97]⟩⟩, sn, u6 18446744073709551615, u6 1]
def b58 : Blk := .cells 36 b58l
def y4281 : Tr Blk := ⟨N (N (N D1 (N D0 D0 L L) (N L L (V b46) L) (N (V b47) L (V b3) L)) (N (N (V b4) L L L) (N L (V b1) L (V b2)) (N L (V b5) L (V b6)) (N (V b48) (V b49) (V b50) L)) (N L L L (N L L L (V b39))) (N (N L L (V b51) D0) (N D0 (V b52) (V b53) L) L L)) (N (N L (N (V b13) L (V b14) L) (N (V b54) (V b7) (V b7) (V b55)) L) (N L (N L L L (V b17)) (N L (V b18) L (V b19)) (N L (V b20) L L)) (N L L (N L (V b17) L (V b18)) (N L (V b22) L (V b23))) (N L L (N L L L (V b17)) (N L (V b18) L (V b25)))) (N (N (N L (V b26) L L) L L (N L (V b17) L (V b18))) (N (N L (V b28) L (V b29)) L L (N L L L (V b17))) (N (N L (V b18) L (V b31)) (N L (V b32) L L) L L) (N (N L (V b17) L (V b18)) (N L (V b34) L (V b35)) L L)) (N (N (N L L L (V b17)) (N L (V b18) L (V b37)) (N L (V b38) L L) L) (N L (N L (V b17) L (V b18)) (N L (V b41) L (V b42)) (N (V b56) (V b57) (V b43) (V b44))) (N (N D0 (V b45) D0 D0) D1 (N D0 D0 L L) L) (N L L (N L D0 L L) D1)), N (N L (N (N (N D1 (N D0 L L L) L L) (N L L L (N D0 L D0 D0)) (N (N D0 L L L) L L L) (N L L L (N L L D0 D0))) (N (N D1 (N D0 L L L) L L) (N L L (N L L L D0) D1) (N (N D0 L L L) L L (N L D0 L L)) (N L (N L L D0 L) L L)) (N (N D1 (N D0 D0 L L) L L) (N (N L L D0 D0) (N D0 L L L) L L) (N L L (N L L L D0) D1) (N (N D0 L L L) L L (N L D0 L L))) (N (N L (N L L D0 L) L L) (N D1 L L L) (N L (N L L L D0) (N L L D0 D0) D1) (N D1 L L L))) (N (N (N (N L L D0 D0) D1 (N D0 L L L) (N L L L D0)) (N L (N (V b58) L L L) L L) (N L L (N L L L D0) L) (N L L (N L L D0 L) L)) (N L L L (N L L L (N L L L D0))) (N (N (N D0 L L L) L L L) (N L L (N L L L D0) (N D0 D0 D0 L)) L L) (N (N L (N L D0 D0 D0) (N D0 D0 L L) L) (N L L (N L D0 D0 D0) L) (N L (N L L L D0) (N L D0 D0 D0) L) L)) (N (N L L (N L L (N L L D0 L) (N D0 D0 D0 L)) L) L L L)) L L L, L⟩
def e4281 : Fact := .st 26 [p 47 0, u6 5, .string ⟨⟨[97]⟩⟩, sn] y2 230 (i6 0) y4281 821
theorem s4281 : Ev.stOK [] [(0, [.int .u8 0, .int .u8 1, .int .u8 56, .int .u8 2, .int .u8 57, .int .u8 49, .int .u8 28, .int .u8 3, .int .u8 61, .int .u8 58, .int .u8 42, .int .u8 50, .int .u8 38, .int .u8 29, .int .u8 17, .int .u8 4, .int .u8 62, .int .u8 47, .int .u8 59, .int .u8 36, .int .u8 45, .int .u8 43, .int .u8 51, .int .u8 22, .int .u8 53, .int .u8 39, .int .u8 33, .int .u8 30, .int .u8 24, .int .u8 18, .int .u8 12, .int .u8 5, .int .u8 63, .int .u8 55, .int .u8 48, .int .u8 27, .int .u8 60, .int .u8 41, .int .u8 37, .int .u8 16, .int .u8 46, .int .u8 35, .int .u8 44, .int .u8 21, .int .u8 52, .int .u8 32, .int .u8 23, .int .u8 11, .int .u8 54, .int .u8 26, .int .u8 40, .int .u8 15, .int .u8 34, .int .u8 20, .int .u8 31, .int .u8 10, .int .u8 25, .int .u8 14, .int .u8 19, .int .u8 9, .int .u8 13, .int .u8 8, .int .u8 7, .int .u8 6])] Tryz.prog 5000 60 26 [p 47 0, u6 5, .string ⟨⟨[97]⟩⟩, sn] y2 230 (i6 0) y4281 = true := by kernel_rfl
theorem h4281 {σ : Nat → Value} {T : List Fact} (hb : ∀ t, isBld t T = isBld t []) : @Fact.Holds ⟨T, [(0, [.int .u8 0, .int .u8 1, .int .u8 56, .int .u8 2, .int .u8 57, .int .u8 49, .int .u8 28, .int .u8 3, .int .u8 61, .int .u8 58, .int .u8 42, .int .u8 50, .int .u8 38, .int .u8 29, .int .u8 17, .int .u8 4, .int .u8 62, .int .u8 47, .int .u8 59, .int .u8 36, .int .u8 45, .int .u8 43, .int .u8 51, .int .u8 22, .int .u8 53, .int .u8 39, .int .u8 33, .int .u8 30, .int .u8 24, .int .u8 18, .int .u8 12, .int .u8 5, .int .u8 63, .int .u8 55, .int .u8 48, .int .u8 27, .int .u8 60, .int .u8 41, .int .u8 37, .int .u8 16, .int .u8 46, .int .u8 35, .int .u8 44, .int .u8 21, .int .u8 52, .int .u8 32, .int .u8 23, .int .u8 11, .int .u8 54, .int .u8 26, .int .u8 40, .int .u8 15, .int .u8 34, .int .u8 20, .int .u8 31, .int .u8 10, .int .u8 25, .int .u8 14, .int .u8 19, .int .u8 9, .int .u8 13, .int .u8 8, .int .u8 7, .int .u8 6])]⟩ Tryz.prog σ e4281 :=
  Fact.stI s4281 (by kernel_rfl) (Ev.hnil) (fun t => (hb t).trans rfl)
end Go.Proofs.YthpgjakenfhgfaaGreatDoor.Q25known
