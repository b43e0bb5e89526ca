/-
  The examples of a chapter, part 4: calls that are evaluated from a heap to a heap.
-/
import Derived.Test.YtnklobkniilpfaaGreatDoorQ24knownp3
namespace Go.Proofs.YtnklobkniilpfaaGreatDoor.Q24known
open Go Go.RowKit Go.Proofs.YtnklobkniilpfaaGreatDoor.Ev Go.Proofs.YtnklobkniilpfaaGreatDoor.Ev.Sh
set_option maxRecDepth 100000
def b39l : List Value := [i6 2, i6 1000, i6 50, u6 0, f, p 48 0, p 68 0, p 220 0, p 27 0, p 28 0, p 221 0]
def b39 : Blk := .cells 42 b39l
def b40l : List Value := [t, u6 0, p 91 0, p 109 0, p 127 0, p 145 0, p 163 0, p 181 0, p 199 0, p 217 0, .map (some 71), .map (some 72)]
def b40 : Blk := .cells 274 b40l
def b41l : List Value := [i6 1, s 211 0 257 257, s 213 0 256 256]
def b41 : Blk := .cells 338 b41l
def b42l : List Value := [p 215 0, u6 0, u6 0, u6 0, u6 0, i6 0]
def b42 : Blk := .cells 329 b42l
def b43l : List Value := [p 73 0, .map (some 218), .map (some 219)]
def b43 : Blk := .cells 192 b43l
def b44l : List Value := r 6 (u6 0) ([t, pn, pn, i6 0])
def b44 : Blk := .cells 179 b44l
def x1 : Tr Blk := ⟨L, L, L⟩
def y1 : Tr Blk := ⟨N (N (N D1 L (N (V b1) L (V b2) L) (N (V b3) L (V b4) L)) (N (N L L L (V b1)) (N L (V b2) L (V b5)) (N L (V b6) (V b7) (V b8)) (N (V b9) L L L)) (N L L L (N L (V b39) L L)) (N (N (V b10) D0 D0 (V b11)) (N (V b12) L L L) L L)) (N (N (N L L (V b13) L) (N (V b14) L (V b15) (V b7)) (N (V b7) (V b40) L L) L) (N L (N L (V b17) L (V b18)) (N L (V b19) L (V b20)) L) (N L (N L L L (V b17)) (N L (V b18) L (V b22)) (N L (V b23) L L)) (N L L (N L (V b17) L (V b18)) (N L (V b25) L (V b26)))) (N (N L L (N L L L (V b17)) (N L (V b18) L (V b28))) (N (N L (V b29) L L) L L (N L (V b17) L (V b18))) (N (N L (V b31) L (V b32)) L L (N L L L (V b17))) (N (N L (V b18) L (V b34)) (N L (V b35) L L) L L)) (N (N (N L (V b17) L (V b18)) (N L (V b37) L (V b38)) L L) (N (N L L L (V b17)) (N L (V b18) L (V b41)) (N L (V b42) (V b7) (V b7)) (N (V b43) (V b44) L L)) L L), L, L⟩
def e1 : Fact := .st 30 [.agg ⟨[i6 2, i6 1000, i6 50, u6 0, f]⟩] x1 0 (.tuple ⟨[p 45 0, i6 0]⟩) y1 222
theorem s1 : Ev.stOK [e28, e542, e1056, e1570, e2084, e2598, e3112] [(0, [.int .u8 0, .int .u8 1, .int .u8 56, .int .u8 2, .int .u8 57, .int .u8 49, .int .u8 28, .int .u8 3, .int .u8 61, .int .u8 58, .int .u8 42, .int .u8 50, .int .u8 38, .int .u8 29, .int .u8 17, .int .u8 4, .int .u8 62, .int .u8 47, .int .u8 59, .int .u8 36, .int .u8 45, .int .u8 43, .int .u8 51, .int .u8 22, .int .u8 53, .int .u8 39, .int .u8 33, .int .u8 30, .int .u8 24, .int .u8 18, .int .u8 12, .int .u8 5, .int .u8 63, .int .u8 55, .int .u8 48, .int .u8 27, .int .u8 60, .int .u8 41, .int .u8 37, .int .u8 16, .int .u8 46, .int .u8 35, .int .u8 44, .int .u8 21, .int .u8 52, .int .u8 32, .int .u8 23, .int .u8 11, .int .u8 54, .int .u8 26, .int .u8 40, .int .u8 15, .int .u8 34, .int .u8 20, .int .u8 31, .int .u8 10, .int .u8 25, .int .u8 14, .int .u8 19, .int .u8 9, .int .u8 13, .int .u8 8, .int .u8 7, .int .u8 6])] Tryz.prog 5000 60 30 [.agg ⟨[i6 2, i6 1000, i6 50, u6 0, f]⟩] x1 0 (.tuple ⟨[p 45 0, i6 0]⟩) y1 = true := by kernel_rfl
theorem h1 {σ : Nat → Value} {T : List Fact} (hb : ∀ t, isBld t T = isBld t []) : @Fact.Holds ⟨T, [(0, [.int .u8 0, .int .u8 1, .int .u8 56, .int .u8 2, .int .u8 57, .int .u8 49, .int .u8 28, .int .u8 3, .int .u8 61, .int .u8 58, .int .u8 42, .int .u8 50, .int .u8 38, .int .u8 29, .int .u8 17, .int .u8 4, .int .u8 62, .int .u8 47, .int .u8 59, .int .u8 36, .int .u8 45, .int .u8 43, .int .u8 51, .int .u8 22, .int .u8 53, .int .u8 39, .int .u8 33, .int .u8 30, .int .u8 24, .int .u8 18, .int .u8 12, .int .u8 5, .int .u8 63, .int .u8 55, .int .u8 48, .int .u8 27, .int .u8 60, .int .u8 41, .int .u8 37, .int .u8 16, .int .u8 46, .int .u8 35, .int .u8 44, .int .u8 21, .int .u8 52, .int .u8 32, .int .u8 23, .int .u8 11, .int .u8 54, .int .u8 26, .int .u8 40, .int .u8 15, .int .u8 34, .int .u8 20, .int .u8 31, .int .u8 10, .int .u8 25, .int .u8 14, .int .u8 19, .int .u8 9, .int .u8 13, .int .u8 8, .int .u8 7, .int .u8 6])]⟩ Tryz.prog σ e1 :=
  Fact.stI s1 (by kernel_rfl) (Ev.hcons (h28 (fun _ => rfl)) (Ev.hcons (h542 (fun _ => rfl)) (Ev.hcons (h1056 (fun _ => rfl)) (Ev.hcons (h1570 (fun _ => rfl)) (Ev.hcons (h2084 (fun _ => rfl)) (Ev.hcons (h2598 (fun _ => rfl)) (Ev.hcons (h3112 (fun _ => rfl)) (Ev.hnil)))))))) (fun t => (hb t).trans rfl)
def b45l : List Value := [u1 120]
def b45 : Blk := .cells 5 b45l
def b46l : List Value := [u3 1, u3 1, .int .i32 (.ofNat 0), u3 0, u3 0, .int .i32 (.ofNat 0)]
def b46 : Blk := .cells 342 b46l
def b47l : List Value := [i6 1]
def b47 : Blk := .cells 3 b47l
def b48 : Blk := .map [⟨u3 0, i6 50, 0⟩] 1
def b49l : List Value := [t, i6 500, p 14 0, p 25 0, .map (some 26), i6 50, i6 0]
def b49 : Blk := .cells 202 b49l
def b50l : List Value := [i6 2, i6 1000, i6 1, i6 50, i6 0, i6 0]
def b50 : Blk := .cells 186 b50l
def b51l : List Value := [t, u6 1]
def b51 : Blk := .cells 194 b51l
def b52l : List Value := ([u6 9259542123273814047] ++ r 8 (u3 0) ([]))
def b52 : Blk := .cells 346 b52l
def b53l : List Value := [s 51 0 1 1, i6 1, i6 0]
def b53 : Blk := .cells 236 b53l
def b54l : List Value := [t, i6 1, g 527 0 4 1 1]
def b54 : Blk := .cells 233 b54l
def b55 : Blk := .map [⟨u3 0, .agg ⟨[u3 0, u6 15, u6 1]⟩, 0⟩] 1
def b56 : Blk := .map [⟨u6 1, .agg ⟨[]⟩, 0⟩] 1
def b57l : List Value := [t, u6 5, p 91 0, p 109 0, p 127 0, p 145 0, p 163 0, p 181 0, p 199 0, p 217 0, .map (some 71), .map (some 72)]
def b57 : Blk := .cells 274 b57l
def b58l : List Value := (((((b17l).set 0 (u3 16)).set 1 (u3 16)).set 2 (.int .i32 (.ofNat 15))).set 48 (u3 0)).set 49 (u3 0)
def b58 : Blk := .cells 342 b58l
def b59l : List Value := (b18l).set 15 (i6 1)
def b59 : Blk := .cells 3 b59l
def b60l : List Value := [p 89 0, u6 32768, u6 0, u6 0, u6 0, i6 1]
def b60 : Blk := .cells 329 b60l
def b61 : Blk := .map [⟨u6 1, u3 0, 0⟩] 1
def b62l : List Value := [.string ⟨⟨[97]⟩⟩, g 514 0 1 1 1, u6 15, u6 1]
def b62 : Blk := .cells 52 b62l
def x4141 : Tr Blk := ⟨N (N (N D1 L (N (V b1) L (V b2) L) (N (V b3) L (V b4) L)) (N (N L L L (V b1)) (N L (V b2) L (V b5)) (N L (V b6) (V b7) (V b8)) (N (V b9) L L L)) (N L L L (N L (V b39) L L)) (N (N (V b10) D0 D0 (V b11)) (N (V b12) L L L) L L)) (N (N (N L L (V b13) L) (N (V b14) L (V b15) (V b7)) (N (V b7) (V b40) L L) L) (N L (N L (V b17) L (V b18)) (N L (V b19) L (V b20)) L) (N L (N L L L (V b17)) (N L (V b18) L (V b22)) (N L (V b23) L L)) (N L L (N L (V b17) L (V b18)) (N L (V b25) L (V b26)))) (N (N L L (N L L L (V b17)) (N L (V b18) L (V b28))) (N (N L (V b29) L L) L L (N L (V b17) L (V b18))) (N (N L (V b31) L (V b32)) L L (N L L L (V b17))) (N (N L (V b18) L (V b34)) (N L (V b35) L L) L L)) (N (N (N L (V b17) L (V b18)) (N L (V b37) L (V b38)) L L) (N (N L L L (V b17)) (N L (V b18) L (V b41)) (N L (V b42) (V b7) (V b7)) (N (V b43) (V b44) (V b45) L)) L L), L, L⟩
def y4141 : Tr Blk := ⟨N (N (N D1 L (N (V b46) L (V b47) L) (N (V b3) L (V b4) L)) (N (N L L L (V b1)) (N L (V b2) L (V b5)) (N L (V b6) (V b48) (V b49)) (N (V b50) L L L)) (N L L L (N L (V b39) L L)) (N (N (V b51) D0 D0 (V b52)) (N (V b53) L L L) L L)) (N (N (N L L (V b13) L) (N (V b14) L (V b54) (V b55)) (N (V b56) (V b57) L L) L) (N L (N L (V b58) L (V b59)) (N L (V b19) L (V b60)) L) (N L (N L L L (V b17)) (N L (V b18) L (V b22)) (N L (V b23) L L)) (N L L (N L (V b17) L (V b18)) (N L (V b25) L (V b26)))) (N (N L L (N L L L (V b17)) (N L (V b18) L (V b28))) (N (N L (V b29) L L) L L (N L (V b17) L (V b18))) (N (N L (V b31) L (V b32)) L L (N L L L (V b17))) (N (N L (V b18) L (V b34)) (N L (V b35) L L) L L)) (N (N (N L (V b17) L (V b18)) (N L (V b37) L (V b38)) L L) (N (N L L L (V b17)) (N L (V b18) L (V b41)) (N L (V b42) (V b55) (V b61)) (N (V b43) (V b44) (V b45) D0)) (N (N D0 D0 D0 L) L L L) (N (N L L D0 L) (N L D0 D0 D0) D1 (N D0 D0 L L))), N (N L (N (N L (N L (N L D0 L D0) (N D0 D0 L L) L) L (N L (N L L L D0) D1 (N D0 D0 L L))) (N L (N L D1 (N D0 D0 L L) L) (N L (N L L D0 L) L (N L L L D0)) (N L L (N L D0 D0 D0) (N D0 D0 D0 L))) (N (N L L (N L L L D0) (N D0 D0 L L)) L (N L D1 (N D0 D0 L L) L) (N L (N L L D0 L) L (N L L L D0))) (N (N L L (N L D0 D0 D0) (N D0 L L L)) L (N (N D0 L L D0) D1 D1 (N D0 L L L)) (N L L (N L L L D0) D1))) (N (N (N (N D0 D0 (V b45) D0) L (N L L D0 L) (N L L L (V b62))) L (N L (N L L D0 L) L L) (N L (N L D0 L L) L L)) (N L L L (N L L (N L L D0 D0) L)) (N (N (N L L L D0) L L L) (N L (N L D0 L L) L L) (N (N L L D0 L) (N L D0 L L) L L) (N (N L D0 L L) L L L)) (N L L L (N L L (N L L L D0) (N D0 D0 D0 L)))) (N (N L L (N L (N L D0 D0 D0) (N D0 D0 L L) L) (N L L (N L D0 D0 D0) L)) (N (N L (N L L L D0) (N L D0 D0 D0) L) L L L) (N (N L L (N L L D0 L) (N D0 D0 D0 L)) L L L) L)) L L L, L⟩
def e4141 : Fact := .st 8 [p 45 0, u6 5, .string ⟨⟨[97]⟩⟩, s 222 0 1 1, u6 10] x4141 223 (i6 0) y4141 917
theorem s4141 : Ev.stOK [] [(0, [.int .u8 0, .int .u8 1, .int .u8 56, .int .u8 2, .int .u8 57, .int .u8 49, .int .u8 28, .int .u8 3, .int .u8 61, .int .u8 58, .int .u8 42, .int .u8 50, .int .u8 38, .int .u8 29, .int .u8 17, .int .u8 4, .int .u8 62, .int .u8 47, .int .u8 59, .int .u8 36, .int .u8 45, .int .u8 43, .int .u8 51, .int .u8 22, .int .u8 53, .int .u8 39, .int .u8 33, .int .u8 30, .int .u8 24, .int .u8 18, .int .u8 12, .int .u8 5, .int .u8 63, .int .u8 55, .int .u8 48, .int .u8 27, .int .u8 60, .int .u8 41, .int .u8 37, .int .u8 16, .int .u8 46, .int .u8 35, .int .u8 44, .int .u8 21, .int .u8 52, .int .u8 32, .int .u8 23, .int .u8 11, .int .u8 54, .int .u8 26, .int .u8 40, .int .u8 15, .int .u8 34, .int .u8 20, .int .u8 31, .int .u8 10, .int .u8 25, .int .u8 14, .int .u8 19, .int .u8 9, .int .u8 13, .int .u8 8, .int .u8 7, .int .u8 6])] Tryz.prog 5000 60 8 [p 45 0, u6 5, .string ⟨⟨[97]⟩⟩, s 222 0 1 1, u6 10] x4141 223 (i6 0) y4141 = true := by kernel_rfl
theorem h4141 {σ : Nat → Value} {T : List Fact} (hb : ∀ t, isBld t T = isBld t []) : @Fact.Holds ⟨T, [(0, [.int .u8 0, .int .u8 1, .int .u8 56, .int .u8 2, .int .u8 57, .int .u8 49, .int .u8 28, .int .u8 3, .int .u8 61, .int .u8 58, .int .u8 42, .int .u8 50, .int .u8 38, .int .u8 29, .int .u8 17, .int .u8 4, .int .u8 62, .int .u8 47, .int .u8 59, .int .u8 36, .int .u8 45, .int .u8 43, .int .u8 51, .int .u8 22, .int .u8 53, .int .u8 39, .int .u8 33, .int .u8 30, .int .u8 24, .int .u8 18, .int .u8 12, .int .u8 5, .int .u8 63, .int .u8 55, .int .u8 48, .int .u8 27, .int .u8 60, .int .u8 41, .int .u8 37, .int .u8 16, .int .u8 46, .int .u8 35, .int .u8 44, .int .u8 21, .int .u8 52, .int .u8 32, .int .u8 23, .int .u8 11, .int .u8 54, .int .u8 26, .int .u8 40, .int .u8 15, .int .u8 34, .int .u8 20, .int .u8 31, .int .u8 10, .int .u8 25, .int .u8 14, .int .u8 19, .int .u8 9, .int .u8 13, .int .u8 8, .int .u8 7, .int .u8 6])]⟩ Tryz.prog σ e4141 :=
  Fact.stI s4141 (by kernel_rfl) (Ev.hnil) (fun t => (hb t).trans rfl)
def b63l : List Value := [u1 121]
def b63 : Blk := .cells 5 b63l
def b64l : List Value := [i6 2, s 1365 0 3 3, s 1367 0 1 1]
def b64 : Blk := .cells 338 b64l
def b65 : Blk := .map [⟨u3 0, i6 50, 0⟩, ⟨u3 1, i6 50, 1⟩] 2
def b66l : List Value := [t, i6 500, p 14 0, p 25 0, .map (some 26), i6 100, i6 0]
def b66 : Blk := .cells 202 b66l
def b67l : List Value := [i6 2, i6 1000, i6 2, i6 100, i6 0, i6 0]
def b67 : Blk := .cells 186 b67l
def b68l : List Value := [t, u6 2]
def b68 : Blk := .cells 194 b68l
def b69l : List Value := ([u6 9259542123273788959, u3 0, u3 1] ++ r 6 (u3 0) ([]))
def b69 : Blk := .cells 346 b69l
def b70l : List Value := [s 51 0 1 1, i6 2, i6 0]
def b70 : Blk := .cells 236 b70l
def b71l : List Value := [t, i6 2, g 1222 0 4 2 2]
def b71 : Blk := .cells 233 b71l
def b72 : Blk := .map [⟨u3 0, .agg ⟨[u3 0, u6 15, u6 1]⟩, 0⟩, ⟨u3 1, .agg ⟨[u3 1, u6 18446744073709551615, u6 2]⟩, 1⟩] 2
def b73 : Blk := .map [⟨u6 1, u3 0, 0⟩, ⟨u6 2, u3 1, 1⟩] 2
def b74l : List Value := [.string ⟨⟨[97]⟩⟩, g 514 0 1 1 1, u6 15, u6 1, .string ⟨⟨[98]⟩⟩, g 1209 0 1 1 1, u6 18446744073709551615, u6 2]
def b74 : Blk := .cells 52 b74l
def b75l : List Value := [u3 2, u3 1, .int .i32 (.ofNat 0), u3 0, u3 2, .int .i32 (.ofNat 0), u3 1, u3 0, .int .i32 (.ofNat 0)]
def b75 : Blk := .cells 342 b75l
def b76l : List Value := [i6 2]
def b76 : Blk := .cells 3 b76l
def x4421 : Tr Blk := ⟨N (N (N D1 L (N (V b46) L (V b47) L) (N (V b3) L (V b4) L)) (N (N L L L (V b1)) (N L (V b2) L (V b5)) (N L (V b6) (V b48) (V b49)) (N (V b50) L L L)) (N L L L (N L (V b39) L L)) (N (N (V b51) D0 D0 (V b52)) (N (V b53) L L L) L L)) (N (N (N L L (V b13) L) (N (V b14) L (V b54) (V b55)) (N (V b56) (V b57) L L) L) (N L (N L (V b58) L (V b59)) (N L (V b19) L (V b60)) L) (N L (N L L L (V b17)) (N L (V b18) L (V b22)) (N L (V b23) L L)) (N L L (N L (V b17) L (V b18)) (N L (V b25) L (V b26)))) (N (N L L (N L L L (V b17)) (N L (V b18) L (V b28))) (N (N L (V b29) L L) L L (N L (V b17) L (V b18))) (N (N L (V b31) L (V b32)) L L (N L L L (V b17))) (N (N L (V b18) L (V b34)) (N L (V b35) L L) L L)) (N (N (N L (V b17) L (V b18)) (N L (V b37) L (V b38)) L L) (N (N L L L (V b17)) (N L (V b18) L (V b41)) (N L (V b42) (V b55) (V b61)) (N (V b43) (V b44) (V b45) D0)) (N (N D0 D0 D0 L) L L L) (N (N L L D0 L) (N L D0 D0 D0) D1 (N D0 D0 L L))), N (N L (N (N L (N L (N L D0 L D0) (N D0 D0 L L) L) L (N L (N L L L D0) D1 (N D0 D0 L L))) (N L (N L D1 (N D0 D0 L L) L) (N L (N L L D0 L) L (N L L L D0)) (N L L (N L D0 D0 D0) (N D0 D0 D0 L))) (N (N L L (N L L L D0) (N D0 D0 L L)) L (N L D1 (N D0 D0 L L) L) (N L (N L L D0 L) L (N L L L D0))) (N (N L L (N L D0 D0 D0) (N D0 L L L)) L (N (N D0 L L D0) D1 D1 (N D0 L L L)) (N L L (N L L L D0) D1))) (N (N (N (N D0 D0 (V b45) D0) L (N L L D0 L) (N L L L (V b62))) L (N L (N L L D0 L) L L) (N L (N L D0 L L) L L)) (N L L L (N L L (N L L D0 D0) L)) (N (N (N L L L D0) L L L) (N L (N L D0 L L) L L) (N (N L L D0 L) (N L D0 L L) L L) (N (N L D0 L L) L L L)) (N L L L (N L L (N L L L D0) (N D0 D0 D0 L)))) (N (N L L (N L (N L D0 D0 D0) (N D0 D0 L L) L) (N L L (N L D0 D0 D0) L)) (N (N L (N L L L D0) (N L D0 D0 D0) L) L L L) (N (N L L (N L L D0 L) (N D0 D0 D0 L)) (N L (N L (V b63) L L) L L) L L) L)) L L L, L⟩
def y4421 : Tr Blk := ⟨N (N (N D1 L (N D0 L D0 L) (N (V b64) L (V b4) L)) (N (N L L L (V b1)) (N L (V b2) L (V b5)) (N L (V b6) (V b65) (V b66)) (N (V b67) L L L)) (N L L L (N L (V b39) L L)) (N (N (V b68) D0 D0 (V b69)) (N (V b70) L L L) L L)) (N (N (N L L (V b13) L) (N (V b14) L (V b71) (V b55)) (N (V b56) (V b57) L L) L) (N L (N L (V b58) L (V b59)) (N L (V b19) L (V b60)) L) (N L (N L L L (V b17)) (N L (V b18) L (V b22)) (N L (V b23) L L)) (N L L (N L (V b17) L (V b18)) (N L (V b25) L (V b26)))) (N (N L L (N L L L (V b17)) (N L (V b18) L (V b28))) (N (N L (V b29) L L) L L (N L (V b17) L (V b18))) (N (N L (V b31) L (V b32)) L L (N L L L (V b17))) (N (N L (V b18) L (V b34)) (N L (V b35) L L) L L)) (N (N (N L (V b17) L (V b18)) (N L (V b37) L (V b38)) L L) (N (N L L L (V b17)) (N L (V b18) L (V b41)) (N L (V b42) (V b72) (V b73)) (N (V b43) (V b44) (V b45) D0)) (N (N D0 D0 D0 L) L L L) (N (N L L D0 L) (N L D0 D0 D0) D1 (N D0 D0 L L))), N (N L (N (N L (N L (N L D0 L D0) (N D0 D0 L L) L) L (N L (N L L L D0) D1 (N D0 D0 L L))) (N L (N L D1 (N D0 D0 L L) L) (N L (N L L D0 L) L (N L L L D0)) (N L L (N L D0 D0 D0) (N D0 D0 D0 L))) (N (N L L (N L L L D0) (N D0 D0 L L)) L (N L D1 (N D0 D0 L L) L) (N L (N L L D0 L) L (N L L L D0))) (N (N L L (N L D0 D0 D0) (N D0 L L L)) L (N (N D0 L L D0) D1 D1 (N D0 L L L)) (N L L (N L L L D0) D1))) (N (N (N (N D0 D0 (V b45) D0) L (N L L D0 L) (N L L L D0)) L (N L (N L L D0 L) L L) (N L (N L D0 L L) L L)) (N L L L (N L L (N L L D0 D0) L)) (N (N (N L L L D0) L L L) (N L (N L D0 L L) L L) (N (N L L D0 L) (N L D0 L L) L L) (N (N L D0 L L) L L L)) (N L L L (N L L (N L L L D0) (N D0 D0 D0 L)))) (N (N L L (N L (N L D0 D0 D0) (N D0 D0 L L) L) (N L L (N L D0 D0 D0) L)) (N (N L (N L L L D0) (N L D0 D0 D0) L) L L L) (N (N L L (N L L D0 L) (N D0 D0 D0 L)) (N L (N L (V b63) D0 D0) (N D0 D0 L L) L) (N L L (N L D0 L L) D1) (N D1 (N D0 L L L) L L)) (N (N L L L (N D0 L D0 D0)) (N (N D0 L L L) L L L) (N L L L (N L L D0 D0)) (N D1 (N D0 L L L) L L)))) (N (N (N (N L L (N L L L D0) D1) (N (N D0 L L L) L L (N L D0 L L)) (N L (N L L D0 L) L L) (N D1 (N D0 D0 L L) L L)) (N (N (N L L D0 D0) (N D0 L L L) L L) (N L L (N L L L D0) D1) (N (N D0 L L L) L L (N L D0 L L)) (N L (N L L D0 L) L L)) (N (N D1 L L L) (N L (N L L L D0) (N L L D0 D0) D1) (N D1 L L L) (N (N L L D0 D0) D1 (N D0 (V b63) D0 L) L)) (N (N (N L D0 L L) (N L L (V b74) L) L L) (N L L L (N L D0 L L)) (N L L L (N D0 L L L)) L)) (N (N L L L (N (N L D0 D0 L) L L L)) (N (N L L L (N L D0 D0 D0)) (N (N D0 L L L) (N L (V b75) L (V b76)) (N L D0 L D0) (N D0 D0 L L)) L (N (N D0 L L L) L L L)) (N L (N L (N L L L D0) D1 L) (N L L (N L L L D0) (N D0 D0 L L)) (N L L (N L D0 L D0) (N D0 D0 L L))) (N L L L (N L L L (N D0 L D0 D0)))) (N (N (N (N D0 L L L) L L L) L L L) L L L) L) L L, L⟩
def e4421 : Fact := .st 7 [p 45 0, u6 5, .string ⟨⟨[98]⟩⟩, s 917 0 1 1] x4421 918 (i6 0) y4421 1543
theorem s4421 : Ev.stOK [] [(0, [.int .u8 0, .int .u8 1, .int .u8 56, .int .u8 2, .int .u8 57, .int .u8 49, .int .u8 28, .int .u8 3, .int .u8 61, .int .u8 58, .int .u8 42, .int .u8 50, .int .u8 38, .int .u8 29, .int .u8 17, .int .u8 4, .int .u8 62, .int .u8 47, .int .u8 59, .int .u8 36, .int .u8 45, .int .u8 43, .int .u8 51, .int .u8 22, .int .u8 53, .int .u8 39, .int .u8 33, .int .u8 30, .int .u8 24, .int .u8 18, .int .u8 12, .int .u8 5, .int .u8 63, .int .u8 55, .int .u8 48, .int .u8 27, .int .u8 60, .int .u8 41, .int .u8 37, .int .u8 16, .int .u8 46, .int .u8 35, .int .u8 44, .int .u8 21, .int .u8 52, .int .u8 32, .int .u8 23, .int .u8 11, .int .u8 54, .int .u8 26, .int .u8 40, .int .u8 15, .int .u8 34, .int .u8 20, .int .u8 31, .int .u8 10, .int .u8 25, .int .u8 14, .int .u8 19, .int .u8 9, .int .u8 13, .int .u8 8, .int .u8 7, .int .u8 6])] Tryz.prog 5000 60 7 [p 45 0, u6 5, .string ⟨⟨[98]⟩⟩, s 917 0 1 1] x4421 918 (i6 0) y4421 = true := by kernel_rfl
theorem h4421 {σ : Nat → Value} {T : List Fact} (hb : ∀ t, isBld t T = isBld t []) : @Fact.Holds ⟨T, [(0, [.int .u8 0, .int .u8 1, .int .u8 56, .int .u8 2, .int .u8 57, .int .u8 49, .int .u8 28, .int .u8 3, .int .u8 61, .int .u8 58, .int .u8 42, .int .u8 50, .int .u8 38, .int .u8 29, .int .u8 17, .int .u8 4, .int .u8 62, .int .u8 47, .int .u8 59, .int .u8 36, .int .u8 45, .int .u8 43, .int .u8 51, .int .u8 22, .int .u8 53, .int .u8 39, .int .u8 33, .int .u8 30, .int .u8 24, .int .u8 18, .int .u8 12, .int .u8 5, .int .u8 63, .int .u8 55, .int .u8 48, .int .u8 27, .int .u8 60, .int .u8 41, .int .u8 37, .int .u8 16, .int .u8 46, .int .u8 35, .int .u8 44, .int .u8 21, .int .u8 52, .int .u8 32, .int .u8 23, .int .u8 11, .int .u8 54, .int .u8 26, .int .u8 40, .int .u8 15, .int .u8 34, .int .u8 20, .int .u8 31, .int .u8 10, .int .u8 25, .int .u8 14, .int .u8 19, .int .u8 9, .int .u8 13, .int .u8 8, .int .u8 7, .int .u8 6])]⟩ Tryz.prog σ e4421 :=
  Fact.stI s4421 (by kernel_rfl) (Ev.hnil) (fun t => (hb t).trans rfl)
end Go.Proofs.YtnklobkniilpfaaGreatDoor.Q24known
