/-
  The examples of a chapter, part 4: calls that are evaluated from a heap to a heap.
-/
import Derived.Test.YtcmcmmedcodmpaaGreatDoorQ42knownp3
namespace Go.Proofs.YtcmcmmedcodmpaaGreatDoor.Q42known
open Go Go.RowKit Go.Proofs.YtcmcmmedcodmpaaGreatDoor.Ev Go.Proofs.YtcmcmmedcodmpaaGreatDoor.Ev.Sh
set_option maxRecDepth 100000
def b42l : List Value := [i6 1, i6 1000, i6 0, u6 0, f, p 54 0, p 74 0, p 226 0, p 33 0, p 34 0, p 227 0]
def b42 : Blk := .cells 104 b42l
def b43l : List Value := [t, u6 0, p 97 0, p 115 0, p 133 0, p 151 0, p 169 0, p 187 0, p 205 0, p 223 0, .map (some 77), .map (some 78)]
def b43 : Blk := .cells 230 b43l
def b44l : List Value := [i6 1, s 217 0 257 257, s 219 0 256 256]
def b44 : Blk := .cells 300 b44l
def b45l : List Value := [p 221 0, u6 0, u6 0, u6 0, u6 0, i6 0]
def b45 : Blk := .cells 296 b45l
def b46l : List Value := [p 79 0, .map (some 224), .map (some 225)]
def b46 : Blk := .cells 163 b46l
def b47l : List Value := r 6 (u6 0) ([t, pn, pn, i6 0])
def b47 : Blk := .cells 184 b47l
def x3 : Tr Blk := ⟨N (N (N (N (V b0) (V b1) (V b2) (V b0)) (N (V b3) (V b1) L L) L L) L L L) L L L, L, L⟩
def w23 : T4 Blk := N (N L L L (V b42)) (N L L (V b13) D0) (N D0 (V b14) (V b15) L) L
def w24 : T4 Blk := N (N L L (N (V b16) L (V b17) L) (N (V b18) (V b10) (V b10) (V b43))) w4 w7 w10
def w25 : T4 Blk := N L L (N L (V b20) L (V b21)) (N L (V b44) L (V b45))
def y3 : Tr Blk := ⟨N (N (N (N (V b0) (V b1) (V b2) (V b0)) (N (V b3) (V b1) D0 D0) (N D0 D0 L L) (N L L (V b4) L)) w0 w1 w23) w24 w20 (N w22 w25 (N (N (V b10) (V b10) (V b46) (V b47)) L L L) L), L, L⟩
def e3 : Fact := .st 55 [.agg ⟨[i6 1, i6 1000, i6 0, u6 0, f]⟩] x3 6 (.tuple ⟨[p 51 0, i6 0]⟩) y3 228
theorem s3 : Ev.stOK [e30, e544, e1058, e1572, e2086, e2600, e3114] [(0, [.int .u8 0, .int .u8 1, .int .u8 56, .int .u8 2, .int .u8 57, .int .u8 49, .int .u8 28, .int .u8 3, .int .u8 61, .int .u8 58, .int .u8 42, .int .u8 50, .int .u8 38, .int .u8 29, .int .u8 17, .int .u8 4, .int .u8 62, .int .u8 47, .int .u8 59, .int .u8 36, .int .u8 45, .int .u8 43, .int .u8 51, .int .u8 22, .int .u8 53, .int .u8 39, .int .u8 33, .int .u8 30, .int .u8 24, .int .u8 18, .int .u8 12, .int .u8 5, .int .u8 63, .int .u8 55, .int .u8 48, .int .u8 27, .int .u8 60, .int .u8 41, .int .u8 37, .int .u8 16, .int .u8 46, .int .u8 35, .int .u8 44, .int .u8 21, .int .u8 52, .int .u8 32, .int .u8 23, .int .u8 11, .int .u8 54, .int .u8 26, .int .u8 40, .int .u8 15, .int .u8 34, .int .u8 20, .int .u8 31, .int .u8 10, .int .u8 25, .int .u8 14, .int .u8 19, .int .u8 9, .int .u8 13, .int .u8 8, .int .u8 7, .int .u8 6])] Tryz.prog 5000 60 55 [.agg ⟨[i6 1, i6 1000, i6 0, u6 0, f]⟩] x3 6 (.tuple ⟨[p 51 0, i6 0]⟩) y3 = true := by kernel_rfl
theorem h3 {σ : Nat → Value} {T : List Fact} (hb : ∀ t, isBld t T = isBld t []) : @Fact.Holds ⟨T, [(0, [.int .u8 0, .int .u8 1, .int .u8 56, .int .u8 2, .int .u8 57, .int .u8 49, .int .u8 28, .int .u8 3, .int .u8 61, .int .u8 58, .int .u8 42, .int .u8 50, .int .u8 38, .int .u8 29, .int .u8 17, .int .u8 4, .int .u8 62, .int .u8 47, .int .u8 59, .int .u8 36, .int .u8 45, .int .u8 43, .int .u8 51, .int .u8 22, .int .u8 53, .int .u8 39, .int .u8 33, .int .u8 30, .int .u8 24, .int .u8 18, .int .u8 12, .int .u8 5, .int .u8 63, .int .u8 55, .int .u8 48, .int .u8 27, .int .u8 60, .int .u8 41, .int .u8 37, .int .u8 16, .int .u8 46, .int .u8 35, .int .u8 44, .int .u8 21, .int .u8 52, .int .u8 32, .int .u8 23, .int .u8 11, .int .u8 54, .int .u8 26, .int .u8 40, .int .u8 15, .int .u8 34, .int .u8 20, .int .u8 31, .int .u8 10, .int .u8 25, .int .u8 14, .int .u8 19, .int .u8 9, .int .u8 13, .int .u8 8, .int .u8 7, .int .u8 6])]⟩ Tryz.prog σ e3 :=
  Fact.stI s3 (by kernel_rfl) (Ev.hcons (h30 (fun _ => rfl)) (Ev.hcons (h544 (fun _ => rfl)) (Ev.hcons (h1058 (fun _ => rfl)) (Ev.hcons (h1572 (fun _ => rfl)) (Ev.hcons (h2086 (fun _ => rfl)) (Ev.hcons (h2600 (fun _ => rfl)) (Ev.hcons (h3114 (fun _ => rfl)) (Ev.hnil)))))))) (fun t => (hb t).trans rfl)
end Go.Proofs.YtcmcmmedcodmpaaGreatDoor.Q42known
