/-
  The examples of a chapter, part 14: calls that are evaluated from a heap to a heap.
-/
import Derived.Test.YtcmcmmedcodmpaaGreatDoorQ42knownp13
namespace Go.Proofs.YtcmcmmedcodmpaaGreatDoor.Q42known
open Go Go.RowKit Go.Proofs.YtcmcmmedcodmpaaGreatDoor.Ev Go.Proofs.YtcmcmmedcodmpaaGreatDoor.Ev.Sh
set_option maxRecDepth 100000
def b171l : List Value := [t, t, p 51 0, p 274 0, g 13752 0 6 7 7]
def b171 : Blk := .cells 35 b171l
def b172l : List Value := [f, f]
def b172 : Blk := .cells 30 b172l
def b173l : List Value := [f, f, pn, pn, sn]
def b173 : Blk := .cells 35 b173l
def b174l : List Value := [i6 1, s 13767 0 2 2, s 13769 0 1 1]
def b174 : Blk := .cells 300 b174l
def b175l : List Value := [p 13771 0]
def b175 : Blk := .cells 237 b175l
def b176l : List Value := [i6 1, s 13778 0 2 2, s 13780 0 1 1]
def b176 : Blk := .cells 300 b176l
def b177l : List Value := [p 13782 0]
def b177 : Blk := .cells 237 b177l
def b178l : List Value := [t, .int .i64 (.negSucc 0), p 13773 0, p 13784 0, .map (some 13785), i6 0, i6 0]
def b178 : Blk := .cells 172 b178l
def b179l : List Value := [s 13810 0 1 1, i6 0, i6 0]
def b179 : Blk := .cells 225 b179l
def b180l : List Value := [p 13829 0, u6 0, f, p 13811 0]
def b180 : Blk := .cells 154 b180l
def b181l : List Value := [p 13825 0]
def b181 : Blk := .cells 156 b181l
def b182l : List Value := ([t, u6 0] ++ r 8 (pn) ([.map (some 13830), .map (some 13831)]))
def b182 : Blk := .cells 230 b182l
def b183l : List Value := [i6 1, s 13844 0 257 257, s 13846 0 256 256]
def b183 : Blk := .cells 300 b183l
def b184l : List Value := [p 13848 0, u6 0, u6 0, u6 0, u6 0, i6 0]
def b184 : Blk := .cells 296 b184l
def w231 : T4 Blk := N (N (N D1 (N (V b171) D0 D0 D0) (N D0 D0 L L) (N L L D0 L)) w120 w209 w210) w211 w20 w222
def w232 : T4 Blk := N w227 w228 (N w229 w230 (N (N L L (N L D0 L L) L) (N L (N L L D0 L) L L) (N L L L D1) (N (N D0 L L L) L L L)) (N w57 L (N L L L (N D0 L D0 D0)) (N (N D0 L L L) L L L))) (N (N L L (N L L L (N L L L D0)) (N (N L D0 D0 D0) L (N L L D0 D0) L)) (N L w107 L w123) (N L L L w124) (N (N L (N L D0 D0 D0) (N D0 L L L) (N L L D0 L)) (N (N L D0 D0 L) L L L) w124 L))
def w233 : T4 Blk := N (N L L L D0) (N D0 D0 D0 L) L L
def w234 : T4 Blk := N (N w233 (N L L L (N L D0 D0 D0)) w146 (N L L (N D0 L L L) L)) (N w205 w54 L L) (N L w130 (N L D1 L (N L D0 L L)) (N (N D0 D0 L L) L L L)) (N w85 L (N (N L L D0 D0) (N D0 L L L) L L) (N L L (N L L L D0) D1))
def w235 : T4 Blk := N (N D0 L L L) L L (N L D0 L L)
def w236 : T4 Blk := N w235 (N L (N L L D0 L) L L) (N D1 L L (N L L L D0)) (N (N L D0 D0 D0) L L L)
def w237 : T4 Blk := N L L L w83
def w238 : T4 Blk := N (N L L (V b4) L) (N (V b5) L (V b176) L) (N (V b177) (V b10) (V b178) (V b12)) L
def w239 : T4 Blk := N (N D0 D0 (V b14) (V b179)) L L L
def w240 : T4 Blk := N w236 w237 (N (N (N L L D0 L) L L L) (N L (N D0 L L L) L L) (N (N L D0 L L) L L L) (N L (N L L L D0) (N (V b170) (V b172) (V b1) (V b2)) (N (V b172) (V b173) (V b1) (V b1)))) (N (N (N (V b1) D0 D0 L) (N L L L (V b4)) (N L (V b5) L (V b174)) (N L (V b175) L L)) w238 (N L L L (N D0 L L (V b13))) w239)
def w241 : T4 Blk := N (N L (V b180) L (V b181)) (N L (V b18) (V b10) (V b10)) (N (V b182) L L L) L
def x13565 : Tr Blk := ⟨w231, w223, N (N L w213 w226 (N w232 (N w234 w240 (N (N w241 L L L) L L L) L) L L)) L L L⟩
def w242 : T4 Blk := N L (N (V b20) L (V b21) L) (N (V b183) L (V b184) L) L
def y13565 : Tr Blk := ⟨w231, w223, N (N L w213 w226 (N w232 (N w234 w240 (N (N w241 w242 L L) L L L) L) L L)) L L L⟩
def e13565 : Fact := .st 270 [] x13565 13840 (p 13850 0) y13565 13851
theorem s13565 : Ev.stOK [] [(0, [.int .u8 0, .int .u8 1, .int .u8 56, .int .u8 2, .int .u8 57, .int .u8 49, .int .u8 28, .int .u8 3, .int .u8 61, .int .u8 58, .int .u8 42, .int .u8 50, .int .u8 38, .int .u8 29, .int .u8 17, .int .u8 4, .int .u8 62, .int .u8 47, .int .u8 59, .int .u8 36, .int .u8 45, .int .u8 43, .int .u8 51, .int .u8 22, .int .u8 53, .int .u8 39, .int .u8 33, .int .u8 30, .int .u8 24, .int .u8 18, .int .u8 12, .int .u8 5, .int .u8 63, .int .u8 55, .int .u8 48, .int .u8 27, .int .u8 60, .int .u8 41, .int .u8 37, .int .u8 16, .int .u8 46, .int .u8 35, .int .u8 44, .int .u8 21, .int .u8 52, .int .u8 32, .int .u8 23, .int .u8 11, .int .u8 54, .int .u8 26, .int .u8 40, .int .u8 15, .int .u8 34, .int .u8 20, .int .u8 31, .int .u8 10, .int .u8 25, .int .u8 14, .int .u8 19, .int .u8 9, .int .u8 13, .int .u8 8, .int .u8 7, .int .u8 6])] Tryz.prog 5000 60 270 [] x13565 13840 (p 13850 0) y13565 = true := by kernel_rfl
theorem h13565 {σ : Nat → Value} {T : List Fact} (hb : ∀ t, isBld t T = isBld t []) : @Fact.Holds ⟨T, [(0, [.int .u8 0, .int .u8 1, .int .u8 56, .int .u8 2, .int .u8 57, .int .u8 49, .int .u8 28, .int .u8 3, .int .u8 61, .int .u8 58, .int .u8 42, .int .u8 50, .int .u8 38, .int .u8 29, .int .u8 17, .int .u8 4, .int .u8 62, .int .u8 47, .int .u8 59, .int .u8 36, .int .u8 45, .int .u8 43, .int .u8 51, .int .u8 22, .int .u8 53, .int .u8 39, .int .u8 33, .int .u8 30, .int .u8 24, .int .u8 18, .int .u8 12, .int .u8 5, .int .u8 63, .int .u8 55, .int .u8 48, .int .u8 27, .int .u8 60, .int .u8 41, .int .u8 37, .int .u8 16, .int .u8 46, .int .u8 35, .int .u8 44, .int .u8 21, .int .u8 52, .int .u8 32, .int .u8 23, .int .u8 11, .int .u8 54, .int .u8 26, .int .u8 40, .int .u8 15, .int .u8 34, .int .u8 20, .int .u8 31, .int .u8 10, .int .u8 25, .int .u8 14, .int .u8 19, .int .u8 9, .int .u8 13, .int .u8 8, .int .u8 7, .int .u8 6])]⟩ Tryz.prog σ e13565 :=
  Fact.stI s13565 (by kernel_rfl) (Ev.hnil) (fun t => (hb t).trans rfl)
def b185l : List Value := ([t, u6 0, p 13850 0] ++ r 7 (pn) ([.map (some 13830), .map (some 13831)]))
def b185 : Blk := .cells 230 b185l
def b186l : List Value := [i6 1, s 13862 0 257 257, s 13864 0 256 256]
def b186 : Blk := .cells 300 b186l
def b187l : List Value := [p 13866 0, u6 0, u6 0, u6 0, u6 0, i6 0]
def b187 : Blk := .cells 296 b187l
def w243 : T4 Blk := N (N L (V b180) L (V b181)) (N L (V b18) (V b10) (V b10)) (N (V b185) L L L) L
def x14079 : Tr Blk := ⟨w231, w223, N (N L w213 w226 (N w232 (N w234 w240 (N (N w243 w242 L L) L L L) L) L L)) L L L⟩
def w244 : T4 Blk := N L (N L L (V b20) L) (N (V b21) L (V b186) L) (N (V b187) L L L)
def y14079 : Tr Blk := ⟨w231, w223, N (N L w213 w226 (N w232 (N w234 w240 (N (N w243 w242 w244 L) L L L) L) L L)) L L L⟩
def e14079 : Fact := .st 270 [] x14079 13858 (p 13868 0) y14079 13869
theorem s14079 : Ev.stOK [] [(0, [.int .u8 0, .int .u8 1, .int .u8 56, .int .u8 2, .int .u8 57, .int .u8 49, .int .u8 28, .int .u8 3, .int .u8 61, .int .u8 58, .int .u8 42, .int .u8 50, .int .u8 38, .int .u8 29, .int .u8 17, .int .u8 4, .int .u8 62, .int .u8 47, .int .u8 59, .int .u8 36, .int .u8 45, .int .u8 43, .int .u8 51, .int .u8 22, .int .u8 53, .int .u8 39, .int .u8 33, .int .u8 30, .int .u8 24, .int .u8 18, .int .u8 12, .int .u8 5, .int .u8 63, .int .u8 55, .int .u8 48, .int .u8 27, .int .u8 60, .int .u8 41, .int .u8 37, .int .u8 16, .int .u8 46, .int .u8 35, .int .u8 44, .int .u8 21, .int .u8 52, .int .u8 32, .int .u8 23, .int .u8 11, .int .u8 54, .int .u8 26, .int .u8 40, .int .u8 15, .int .u8 34, .int .u8 20, .int .u8 31, .int .u8 10, .int .u8 25, .int .u8 14, .int .u8 19, .int .u8 9, .int .u8 13, .int .u8 8, .int .u8 7, .int .u8 6])] Tryz.prog 5000 60 270 [] x14079 13858 (p 13868 0) y14079 = true := by kernel_rfl
theorem h14079 {σ : Nat → Value} {T : List Fact} (hb : ∀ t, isBld t T = isBld t []) : @Fact.Holds ⟨T, [(0, [.int .u8 0, .int .u8 1, .int .u8 56, .int .u8 2, .int .u8 57, .int .u8 49, .int .u8 28, .int .u8 3, .int .u8 61, .int .u8 58, .int .u8 42, .int .u8 50, .int .u8 38, .int .u8 29, .int .u8 17, .int .u8 4, .int .u8 62, .int .u8 47, .int .u8 59, .int .u8 36, .int .u8 45, .int .u8 43, .int .u8 51, .int .u8 22, .int .u8 53, .int .u8 39, .int .u8 33, .int .u8 30, .int .u8 24, .int .u8 18, .int .u8 12, .int .u8 5, .int .u8 63, .int .u8 55, .int .u8 48, .int .u8 27, .int .u8 60, .int .u8 41, .int .u8 37, .int .u8 16, .int .u8 46, .int .u8 35, .int .u8 44, .int .u8 21, .int .u8 52, .int .u8 32, .int .u8 23, .int .u8 11, .int .u8 54, .int .u8 26, .int .u8 40, .int .u8 15, .int .u8 34, .int .u8 20, .int .u8 31, .int .u8 10, .int .u8 25, .int .u8 14, .int .u8 19, .int .u8 9, .int .u8 13, .int .u8 8, .int .u8 7, .int .u8 6])]⟩ Tryz.prog σ e14079 :=
  Fact.stI s14079 (by kernel_rfl) (Ev.hnil) (fun t => (hb t).trans rfl)
end Go.Proofs.YtcmcmmedcodmpaaGreatDoor.Q42known
