/-
  The examples of a chapter, part 13: calls that are evaluated from a heap to a heap.
-/
import Derived.Test.YtcmcmmedcodmpaaGreatDoorQ42knownp12
namespace Go.Proofs.YtcmcmmedcodmpaaGreatDoor.Q42known
open Go Go.RowKit Go.Proofs.YtcmcmmedcodmpaaGreatDoor.Ev Go.Proofs.YtcmcmmedcodmpaaGreatDoor.Ev.Sh
set_option maxRecDepth 100000
def b154l : List Value := [t, t, p 51 0, p 274 0, g 10695 0 6 5 5]
def b154 : Blk := .cells 35 b154l
def b155l : List Value := [t, t, p 51 0, p 274 0, g 11835 0 6 6 6]
def b155 : Blk := .cells 35 b155l
def b156 : Blk := .map [] 4
def b157l : List Value := [t, i6 0, g 7936 0 4 4 4]
def b157 : Blk := .cells 221 b157l
def b158l : List Value := [t, u6 3, p 97 0, p 115 0, p 133 0, p 151 0, p 169 0, p 187 0, p 205 0, p 223 0, .map (some 77), .map (some 78)]
def b158 : Blk := .cells 230 b158l
def b159l : List Value := [u6 0, u6 0, u6 3, u6 0, u6 1, u6 0, t, pn, pn, i6 0]
def b159 : Blk := .cells 184 b159l
def b160l : List Value := [t, u6 3, p 320 0, p 338 0, p 356 0, p 374 0, p 392 0, p 410 0, p 428 0, p 446 0, .map (some 300), .map (some 301)]
def b160 : Blk := .cells 230 b160l
def b161l : List Value := [u3 0, u3 0, .int .i32 (.negSucc 0), u3 4, u3 2, .int .i32 (.negSucc 0), u3 4, u3 3, .int .i32 (.negSucc 0), u3 4, u3 4, .int .i32 (.negSucc 0), u3 4, u3 4, .int .i32 (.ofNat 0)]
def b161 : Blk := .cells 303 b161l
def b162l : List Value := [.string ⟨⟨[]⟩⟩, sn, u6 0, u6 0, .string ⟨⟨[]⟩⟩, sn, u6 0, u6 0, .string ⟨⟨[]⟩⟩, sn, u6 0, u6 0, .string ⟨⟨[]⟩⟩, sn, u6 0, u6 0]
def b162 : Blk := .cells 59 b162l
def b163l : List Value := [i6 2, .string ⟨⟨[97]⟩⟩, g 2872 0 1 1 1, u6 1, u6 18446744073709551615, u6 1, i6 2, .string ⟨⟨[98]⟩⟩, g 5559 0 1 1 1, u6 2, u6 18446744073709551615, u6 2, i6 4, .string ⟨⟨[97]⟩⟩, g 6109 0 1 1 1, u6 1, u6 18446744073709551615, u6 2, i6 2, .string ⟨⟨[97]⟩⟩, g 8601 0 1 1 1, u6 3, u6 18446744073709551615, u6 2, i6 4, .string ⟨⟨[98]⟩⟩, g 9151 0 1 1 1, u6 2, u6 18446744073709551615, u6 2, i6 4, .string ⟨⟨[98]⟩⟩, g 11459 0 1 1 1, u6 4, u6 18446744073709551615, u6 3]
def b163 : Blk := .cells 67 b163l
def w200 : T4 Blk := N w198 w199 (N (N L L L (N L L D0 L)) (N (N D0 D0 D0 L) L L L) (N L (N L D0 L L) L L) (N L L (N L L L D0) D1)) (N L w123 L w109)
def w201 : T4 Blk := N L L L (N L L L (N L L D0 L))
def w202 : T4 Blk := N w84 L L L
def w203 : T4 Blk := N w201 (N (N (N D0 D0 D0 L) L (N L D0 D0 L) L) L w83 L) w202 (N w85 (N L D1 L (N L D0 L L)) (N (N D0 D0 L L) L L L) w85)
def w204 : T4 Blk := N w193 w197 w200 w203
def w205 : T4 Blk := N (N L L D0 D0) (N D0 D0 L L) L L
def w206 : T4 Blk := N (N D0 D0 L L) L L (N L L D0 L)
def w207 : T4 Blk := N (N L w205 (N L L L D1) w206) (N (N L (N L L L D0) L L) w69 w59 L) (N L L w107 (N (N L L L D0) (N D0 D0 D0 L) L (N D0 L L D0))) (N (N (N D0 L L L) L L L) w57 L (N (N L D0 D0 D0) L L L))
def w208 : T4 Blk := N w54 (N (N L D0 L L) L L L) (N (N L L L D0) L L L) (N (N D0 L L L) L L L)
def x12381 : Tr Blk := ⟨N (N (N D1 (N (V b154) D0 D0 D0) (N D0 D0 L L) (N L L D0 L)) w120 w154 w155) w156 w20 w158, w162, N (N L w181 (N w190 w204 (N w207 (N w168 w169 w208 (N (N L (N L L D0 (V b153)) L L) L L L)) L L) L) L) L L L⟩
def w209 : T4 Blk := N (N (V b156) (V b11) (V b12) L) L L L
def w210 : T4 Blk := N (N L L L (V b42)) (N L L (V b140) D0) (N D0 (V b14) (V b15) L) L
def w211 : T4 Blk := N (N L L (N (V b16) L (V b17) L) (N (V b157) (V b10) (V b10) (V b158))) w4 w7 w10
def w212 : T4 Blk := N (N (V b156) (V b156) (V b46) (V b159)) D1 (N D0 L L L) (N L D0 L D0)
def w213 : T4 Blk := N (N w131 w134 w163 (N w141 w142 (N (N L (N L D0 D0 D0) (N D0 L L L) (N L (V b161) L (V b5))) w54 (N L L (N D0 L L L) L) L) w144)) w150 w166 (N w170 w172 (N w173 w175 w176 (N L w177 (N L L L D1) (N D1 (N D0 L L L) (N L L L D0) L))) (N (N (N (N (V b162) L L L) L L L) (N L (N L L L D0) L L) (N L (N L L D0 L) L L) L) w178 w179 w180))
def w214 : T4 Blk := N w76 L L L
def w215 : T4 Blk := N (N L L L D0) (N D0 L L L) L L
def w216 : T4 Blk := N (N L L L D0) (N L D0 D0 D0) L (N L L D0 D0)
def w217 : T4 Blk := N (N D0 L L L) (N L L D0 L) (N L D0 D0 L) L
def w218 : T4 Blk := N w83 w91 L (N L D1 (N D0 D0 L L) L)
def w219 : T4 Blk := N w207 (N w168 w169 w208 (N w75 L w54 L)) (N w214 (N w57 w215 (N L L L (N D0 L D0 D0)) (N (N D0 L L L) L L L)) (N L w59 L L) (N L w216 w217 L)) (N w218 (N w89 (N L L (N L D0 D0 D0) L) (N L (N D0 D0 L L) L L) (N L D1 D1 D1)) (N (N D1 (N D0 D0 L L) L L) (N L L (N L L D0 D0) (N D0 D0 D0 L)) (N L L (N L L L D0) L) (N L (N D0 L L L) L (N L L D0 D0))) (N w103 L L L))
def w220 : T4 Blk := N (N L w66 (N D1 D1 L L) w205) (N L L (N L (N L D0 L L) L L) (N L (N L D0 D0 D0) D1 D1)) (N (N L L L (N L L D0 L)) L (N (N L D0 D0 L) L L L) (N L (N L L L D0) D1 D1)) (N (N (N D0 D0 D0 (V b98)) (N D0 L L L) L L) (N L L L (N L L D0 L)) (N (N D0 D0 D0 L) L L L) L)
def w221 : T4 Blk := N (N L L (N (N L D0 L D0) (N D0 D0 L L) L (N D0 D0 D0 L)) (N L (N D0 L L D0) (N D0 L L L) L)) (N L w59 (N L L (N L D0 D0 D0) L) L) (N (N (N L L D0 D0) D1 L L) (N L (N D0 L L L) L (N L D0 L L)) w104 w84) w86
def y12381 : Tr Blk := ⟨N (N (N D1 (N (V b155) D0 D0 D0) (N D0 D0 L L) (N L L D0 L)) w120 w209 w210) w211 w20 (N w22 w25 w212 w157), N (N L (N (N w78 w159 (N L (N L L L (V b56)) (N L (V b57) L (V b147)) (N (V b10) (V b10) (V b160) L)) w31) w41 w160 w161) w58 w81) w92 w121 w125, N (N L w213 (N w190 w204 w219 (N w220 w221 (N (N L (N L (N L D0 D0 D0) L L) (N L (N D0 L L L) L L) (N L L (N L L D0 (V b163)) L)) L L L) L)) L) L L L⟩
def e12381 : Fact := .st 14 [p 4 0, u6 3, .string ⟨⟨[98]⟩⟩, i6 1] x12381 10696 (t) y12381 11836
theorem s12381 : Ev.stOK [] [(0, [.int .u8 0, .int .u8 1, .int .u8 56, .int .u8 2, .int .u8 57, .int .u8 49, .int .u8 28, .int .u8 3, .int .u8 61, .int .u8 58, .int .u8 42, .int .u8 50, .int .u8 38, .int .u8 29, .int .u8 17, .int .u8 4, .int .u8 62, .int .u8 47, .int .u8 59, .int .u8 36, .int .u8 45, .int .u8 43, .int .u8 51, .int .u8 22, .int .u8 53, .int .u8 39, .int .u8 33, .int .u8 30, .int .u8 24, .int .u8 18, .int .u8 12, .int .u8 5, .int .u8 63, .int .u8 55, .int .u8 48, .int .u8 27, .int .u8 60, .int .u8 41, .int .u8 37, .int .u8 16, .int .u8 46, .int .u8 35, .int .u8 44, .int .u8 21, .int .u8 52, .int .u8 32, .int .u8 23, .int .u8 11, .int .u8 54, .int .u8 26, .int .u8 40, .int .u8 15, .int .u8 34, .int .u8 20, .int .u8 31, .int .u8 10, .int .u8 25, .int .u8 14, .int .u8 19, .int .u8 9, .int .u8 13, .int .u8 8, .int .u8 7, .int .u8 6])] Tryz.prog 5000 60 14 [p 4 0, u6 3, .string ⟨⟨[98]⟩⟩, i6 1] x12381 10696 (t) y12381 = true := by kernel_rfl
theorem h12381 {σ : Nat → Value} {T : List Fact} (hb : ∀ t, isBld t T = isBld t []) : @Fact.Holds ⟨T, [(0, [.int .u8 0, .int .u8 1, .int .u8 56, .int .u8 2, .int .u8 57, .int .u8 49, .int .u8 28, .int .u8 3, .int .u8 61, .int .u8 58, .int .u8 42, .int .u8 50, .int .u8 38, .int .u8 29, .int .u8 17, .int .u8 4, .int .u8 62, .int .u8 47, .int .u8 59, .int .u8 36, .int .u8 45, .int .u8 43, .int .u8 51, .int .u8 22, .int .u8 53, .int .u8 39, .int .u8 33, .int .u8 30, .int .u8 24, .int .u8 18, .int .u8 12, .int .u8 5, .int .u8 63, .int .u8 55, .int .u8 48, .int .u8 27, .int .u8 60, .int .u8 41, .int .u8 37, .int .u8 16, .int .u8 46, .int .u8 35, .int .u8 44, .int .u8 21, .int .u8 52, .int .u8 32, .int .u8 23, .int .u8 11, .int .u8 54, .int .u8 26, .int .u8 40, .int .u8 15, .int .u8 34, .int .u8 20, .int .u8 31, .int .u8 10, .int .u8 25, .int .u8 14, .int .u8 19, .int .u8 9, .int .u8 13, .int .u8 8, .int .u8 7, .int .u8 6])]⟩ Tryz.prog σ e12381 :=
  Fact.stI s12381 (by kernel_rfl) (Ev.hnil) (fun t => (hb t).trans rfl)
def b164l : List Value := [t, t, p 51 0, p 274 0, g 12974 0 6 7 7]
def b164 : Blk := .cells 35 b164l
def b165 : Blk := .map [] 3
def b166l : List Value := [t, i6 0, g 9580 0 4 3 3]
def b166 : Blk := .cells 221 b166l
def b167l : List Value := [u6 0, u6 0, u6 0, u6 0, u6 3, u6 0, t, pn, pn, i6 0]
def b167 : Blk := .cells 184 b167l
def b168l : List Value := [.string ⟨⟨[]⟩⟩, sn, u6 0, u6 0, .string ⟨⟨[]⟩⟩, sn, u6 0, u6 0, .string ⟨⟨[]⟩⟩, sn, u6 0, u6 0]
def b168 : Blk := .cells 59 b168l
def b169l : List Value := [u3 0, u3 0, .int .i32 (.negSucc 0), u3 0, u3 0, .int .i32 (.negSucc 0), u3 4, u3 4, .int .i32 (.negSucc 0), u3 0, u3 0, .int .i32 (.negSucc 0), u3 4, u3 4, .int .i32 (.ofNat 0)]
def b169 : Blk := .cells 303 b169l
def b170l : List Value := [i6 2, .string ⟨⟨[97]⟩⟩, g 2872 0 1 1 1, u6 1, u6 18446744073709551615, u6 1, i6 2, .string ⟨⟨[98]⟩⟩, g 5559 0 1 1 1, u6 2, u6 18446744073709551615, u6 2, i6 4, .string ⟨⟨[97]⟩⟩, g 6109 0 1 1 1, u6 1, u6 18446744073709551615, u6 2, i6 2, .string ⟨⟨[97]⟩⟩, g 8601 0 1 1 1, u6 3, u6 18446744073709551615, u6 2, i6 4, .string ⟨⟨[98]⟩⟩, g 9151 0 1 1 1, u6 2, u6 18446744073709551615, u6 2, i6 4, .string ⟨⟨[98]⟩⟩, g 11459 0 1 1 1, u6 4, u6 18446744073709551615, u6 3, i6 4, .string ⟨⟨[97]⟩⟩, g 12815 0 1 1 1, u6 3, u6 18446744073709551615, u6 3]
def b170 : Blk := .cells 67 b170l
def w222 : T4 Blk := N w22 w25 w212 (N (N L (V b146) L (V b50)) L (N (V b4) L (V b5) L) (N (V b51) L (V b52) (V b165)))
def w223 : T4 Blk := N (N L (N (N w28 (N (N L L (V b80) L) (N L (V b121) D0 D0) (N (V b14) (V b55) L L) L) (N L (N L L L (V b56)) (N L (V b57) L (V b166)) (N (V b10) (V b10) (V b160) L)) w31) w41 (N w43 w46 w49 (N L L (N (V b20) L (V b21) L) (N (V b82) L (V b83) (V b165)))) (N (N (N (V b165) (V b84) (V b167) (V b85)) (N D0 D0 L L) L L) (N L L L (N L D0 L D0)) (N (N D0 D0 L L) L L L) L)) w58 w81) w92 w121 w125
def w224 : T4 Blk := N (N D0 L L L) (N L L L D0) L (N (V b168) L L L)
def w225 : T4 Blk := N L L (N L L D0 D0) (N D0 D0 L L)
def w226 : T4 Blk := N w190 (N w193 (N w194 (N w145 (N L L D1 D1) w224 L) w196 (N L w182 L (N (N L L L D0) (N D0 D0 D0 L) (N L L L (V b169)) (N L (V b5) L D0)))) w200 w203) w219 (N w220 w221 (N (N L (N L (N L D0 D0 D0) L L) (N L (N D0 L L L) L L) w225) (N L w76 L w85) (N L L L (N L L L (N D0 L D0 D0))) (N w165 L w59 L)) (N (N w130 L L L) (N w123 (N (N L L D0 D0) (N D0 L L L) (N L L D0 L) (N L D0 D0 L)) L w84) w171 (N w126 w127 (N (N D0 L L L) L L L) L)))
def w227 : T4 Blk := N (N L (N L L L (N L L L D0)) w183 w184) (N (N L L L (N L L D0 L)) (N (N D0 D0 D0 L) L L L) w185 L) (N (N D1 (N D0 D0 L L) L L) w186 (N L (N L D0 D0 D0) L L) (N (N D0 D0 L L) L L L)) (N D2 (N (N D0 D0 L L) L L L) w116 (N L (N L L L D0) L L))
def w228 : T4 Blk := N (N w187 (N L (N L D0 L L) L L) L L) (N L L w188 (N D1 L L (N L L D0 D0))) (N (N (N D0 D0 L L) L L L) L L (N (N L D0 L L) L L L)) (N w189 (N L L (N L L D0 L) L) (N L L L (N L D0 D0 L)) L)
def w229 : T4 Blk := N (N (N L L L D0) D1 D1 (N D0 D0 D0 (V b85))) (N (N D0 L L L) L L L) w124 L
def w230 : T4 Blk := N L L (N L L L (N L D0 L D0)) (N (N D0 D0 L L) L L L)
def y12836 : Tr Blk := ⟨N (N (N D1 (N (V b164) D0 D0 D0) (N D0 D0 L L) (N L L D0 L)) w120 w209 w210) w211 w20 w222, w223, N (N L w213 w226 (N (N w227 w228 (N w229 w230 (N (N L L (N L D0 L L) L) (N L (N L L D0 L) L L) (N L L L (N D0 D0 (V b170) L)) L) L) L) L L L)) L L L⟩
def e12836 : Fact := .st 14 [p 4 0, u6 3, .string ⟨⟨[97]⟩⟩, i6 2] y12381 11836 (t) y12836 12975
theorem s12836 : Ev.stOK [] [(0, [.int .u8 0, .int .u8 1, .int .u8 56, .int .u8 2, .int .u8 57, .int .u8 49, .int .u8 28, .int .u8 3, .int .u8 61, .int .u8 58, .int .u8 42, .int .u8 50, .int .u8 38, .int .u8 29, .int .u8 17, .int .u8 4, .int .u8 62, .int .u8 47, .int .u8 59, .int .u8 36, .int .u8 45, .int .u8 43, .int .u8 51, .int .u8 22, .int .u8 53, .int .u8 39, .int .u8 33, .int .u8 30, .int .u8 24, .int .u8 18, .int .u8 12, .int .u8 5, .int .u8 63, .int .u8 55, .int .u8 48, .int .u8 27, .int .u8 60, .int .u8 41, .int .u8 37, .int .u8 16, .int .u8 46, .int .u8 35, .int .u8 44, .int .u8 21, .int .u8 52, .int .u8 32, .int .u8 23, .int .u8 11, .int .u8 54, .int .u8 26, .int .u8 40, .int .u8 15, .int .u8 34, .int .u8 20, .int .u8 31, .int .u8 10, .int .u8 25, .int .u8 14, .int .u8 19, .int .u8 9, .int .u8 13, .int .u8 8, .int .u8 7, .int .u8 6])] Tryz.prog 5000 60 14 [p 4 0, u6 3, .string ⟨⟨[97]⟩⟩, i6 2] y12381 11836 (t) y12836 = true := by kernel_rfl
theorem h12836 {σ : Nat → Value} {T : List Fact} (hb : ∀ t, isBld t T = isBld t []) : @Fact.Holds ⟨T, [(0, [.int .u8 0, .int .u8 1, .int .u8 56, .int .u8 2, .int .u8 57, .int .u8 49, .int .u8 28, .int .u8 3, .int .u8 61, .int .u8 58, .int .u8 42, .int .u8 50, .int .u8 38, .int .u8 29, .int .u8 17, .int .u8 4, .int .u8 62, .int .u8 47, .int .u8 59, .int .u8 36, .int .u8 45, .int .u8 43, .int .u8 51, .int .u8 22, .int .u8 53, .int .u8 39, .int .u8 33, .int .u8 30, .int .u8 24, .int .u8 18, .int .u8 12, .int .u8 5, .int .u8 63, .int .u8 55, .int .u8 48, .int .u8 27, .int .u8 60, .int .u8 41, .int .u8 37, .int .u8 16, .int .u8 46, .int .u8 35, .int .u8 44, .int .u8 21, .int .u8 52, .int .u8 32, .int .u8 23, .int .u8 11, .int .u8 54, .int .u8 26, .int .u8 40, .int .u8 15, .int .u8 34, .int .u8 20, .int .u8 31, .int .u8 10, .int .u8 25, .int .u8 14, .int .u8 19, .int .u8 9, .int .u8 13, .int .u8 8, .int .u8 7, .int .u8 6])]⟩ Tryz.prog σ e12836 :=
  Fact.stI s12836 (by kernel_rfl) (Ev.hnil) (fun t => (hb t).trans rfl)
end Go.Proofs.YtcmcmmedcodmpaaGreatDoor.Q42known
