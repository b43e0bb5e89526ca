/-
  The examples of a chapter, part 12: calls that are evaluated from a heap to a heap.
-/
import Derived.Test.YtcmcmmedcodmpaaGreatDoorQ42knownp11
namespace Go.Proofs.YtcmcmmedcodmpaaGreatDoor.Q42known
open Go Go.RowKit Go.Proofs.YtcmcmmedcodmpaaGreatDoor.Ev Go.Proofs.YtcmcmmedcodmpaaGreatDoor.Ev.Sh
set_option maxRecDepth 100000
def b138l : List Value := [t, t, p 51 0, p 274 0, g 9917 0 6 5 5]
def b138 : Blk := .cells 35 b138l
def b139 : Blk := .map [⟨u3 3, i6 50, 3⟩] 4
def b140l : List Value := [t, u6 4]
def b140 : Blk := .cells 147 b140l
def b141l : List Value := ([u6 9259542123273789056, u3 0, u3 3] ++ r 6 (u3 0) ([]))
def b141 : Blk := .cells 280 b141l
def b142l : List Value := [t, i6 1, g 7936 0 4 4 4]
def b142 : Blk := .cells 221 b142l
def b143 : Blk := .map [⟨u3 3, .agg ⟨[u3 3, u6 18446744073709551615, u6 4]⟩, 3⟩] 4
def b144 : Blk := .map [⟨u6 4, u3 3, 3⟩] 4
def b145l : List Value := [u6 0, u6 0, u6 3, u6 0, u6 0, u6 0, t, pn, pn, i6 0]
def b145 : Blk := .cells 184 b145l
def b146l : List Value := [i6 4, s 9723 0 5 5, s 9725 0 1 1]
def b146 : Blk := .cells 300 b146l
def b147l : List Value := [t, i6 1, g 9580 0 4 3 3]
def b147 : Blk := .cells 221 b147l
def b148l : List Value := [u6 0, u6 0, u6 0, u6 0, u6 2, u6 0, t, pn, pn, i6 0]
def b148 : Blk := .cells 184 b148l
def b149l : List Value := [u3 0, u3 0, .int .i32 (.negSucc 0), u3 4, u3 2, .int .i32 (.negSucc 0), u3 4, u3 3, .int .i32 (.negSucc 0), u3 4, u3 4, .int .i32 (.ofNat 0), u3 3, u3 3, .int .i32 (.ofNat 0)]
def b149 : Blk := .cells 303 b149l
def b150l : List Value := [.string ⟨⟨[]⟩⟩, sn, u6 0, u6 0, .string ⟨⟨[]⟩⟩, sn, u6 0, u6 0, .string ⟨⟨[]⟩⟩, sn, u6 0, u6 0, .string ⟨⟨[98]⟩⟩, g 7923 0 1 1 1, u6 18446744073709551615, u6 4]
def b150 : Blk := .cells 59 b150l
def b151l : List Value := [.string ⟨⟨[]⟩⟩, sn, u6 0, u6 0, .string ⟨⟨[]⟩⟩, sn, u6 0, u6 0, .string ⟨⟨[97]⟩⟩, g 9567 0 1 1 1, u6 18446744073709551615, u6 3]
def b151 : Blk := .cells 59 b151l
def b152l : List Value := [u3 0, u3 0, .int .i32 (.negSucc 0), u3 0, u3 0, .int .i32 (.negSucc 0), u3 4, u3 4, .int .i32 (.ofNat 0), u3 0, u3 0, .int .i32 (.negSucc 0), u3 2, u3 2, .int .i32 (.ofNat 0)]
def b152 : Blk := .cells 303 b152l
def b153l : List Value := [i6 2, .string ⟨⟨[97]⟩⟩, g 2872 0 1 1 1, u6 1, u6 18446744073709551615, u6 1, i6 2, .string ⟨⟨[98]⟩⟩, g 5559 0 1 1 1, u6 2, u6 18446744073709551615, u6 2, i6 4, .string ⟨⟨[97]⟩⟩, g 6109 0 1 1 1, u6 1, u6 18446744073709551615, u6 2, i6 2, .string ⟨⟨[97]⟩⟩, g 8601 0 1 1 1, u6 3, u6 18446744073709551615, u6 2, i6 4, .string ⟨⟨[98]⟩⟩, g 9151 0 1 1 1, u6 2, u6 18446744073709551615, u6 2]
def b153 : Blk := .cells 67 b153l
def w154 : T4 Blk := N (N (V b139) (V b89) (V b90) L) L L L
def w155 : T4 Blk := N (N L L L (V b42)) (N L L (V b140) D0) (N D0 (V b141) (V b93) L) L
def w156 : T4 Blk := N (N L L (N (V b16) L (V b17) L) (N (V b142) (V b10) (V b10) (V b124))) w4 w7 w10
def w157 : T4 Blk := N (N L (V b146) L (V b50)) L (N (V b4) L (V b5) L) (N (V b51) L (V b52) (V b120))
def w158 : T4 Blk := N w22 w25 (N (N (V b143) (V b144) (V b46) (V b145)) D1 (N D0 L L L) (N L D0 L D0)) w157
def w159 : T4 Blk := N (N L L (V b80) L) (N L (V b121) D0 D0) (N (V b122) (V b111) L L) L
def w160 : T4 Blk := N w43 w46 w49 (N L L (N (V b20) L (V b21) L) (N (V b82) L (V b83) (V b125)))
def w161 : T4 Blk := N (N (N (V b126) (V b84) (V b148) (V b85)) (N D0 D0 L L) L L) (N L L L (N L D0 L D0)) (N (N D0 D0 L L) L L L) L
def w162 : T4 Blk := N (N L (N (N w78 w159 (N L (N L L L (V b56)) (N L (V b57) L (V b147)) (N (V b10) (V b10) (V b131) L)) w31) w41 w160 w161) w58 w81) w92 w121 w125
def w163 : T4 Blk := N w135 w138 w139 (N (N L L L (N L L L D0)) w140 (N L L (N L L D0 D0) D1) (N (N D0 D0 D0 L) L (N L D0 L L) (N L L D0 L)))
def w164 : T4 Blk := N L L (N L D0 D0 D0) (N D0 D0 L L)
def w165 : T4 Blk := N (N D0 L L L) (N L L L D0) (N D0 L L L) L
def w166 : T4 Blk := N w151 (N w65 w80 w82 w68) (N (N L (N (N L D0 D0 D0) (N D0 L L L) (N L D0 L D0) (N L D0 L D0)) (N (N D0 L L L) L L L) L) w152 w153 (N (N (N L L L D0) L L L) w164 L w76)) (N (N L w85 L L) (N L (N L L L (N D0 L D0 D0)) w165 L) (N w59 L w130 L) (N L L w123 (N (N L L D0 D0) (N D0 D0 L L) (N L L L D0) (N L L D0 D0))))
def w167 : T4 Blk := N (N D0 D0 D0 L) L L (N L L D0 L)
def w168 : T4 Blk := N (N L L (N L L D0 D0) D1) (N L L L (N D0 L L L)) w110 w167
def w169 : T4 Blk := N (N (N D0 D0 D0 L) L L L) L L L
def w170 : T4 Blk := N (N L w123 L (N D1 L L L)) w168 w169 (N w54 (N (N L D0 D0 D0) (N D0 L L L) (N L L D0 L) (N L D0 D0 L)) L w84)
def w171 : T4 Blk := N (N L L L (N L L L D0)) (N (N D0 D0 L L) L L L) (N L L D1 (N D0 D0 L L)) (N L L (N L L D0 L) L)
def w172 : T4 Blk := N w171 (N w126 (N L L (N D0 D0 L L) L) (N L L D1 D1) w127) w128 (N w129 (N D1 L L L) (N (N L L L D0) (N L L D0 D0) D1 (N D0 D0 D0 L)) L)
def w173 : T4 Blk := N w84 L (N L L D1 (N D0 D0 D0 L)) L
def w174 : T4 Blk := N L (N L D0 D0 D0) (N D0 D0 D0 L) L
def w175 : T4 Blk := N w174 (N L (N L L L D0) L L) (N (N D0 L L L) L (N L L D0 D0) D1) (N L L L (N D0 D0 D0 L))
def w176 : T4 Blk := N L w174 (N L (N L L L D0) L L) (N (N D0 L L L) L (N L L D0 D0) (N D0 D0 L L))
def w177 : T4 Blk := N (N L D0 L L) D1 D1 (N D0 D0 L L)
def w178 : T4 Blk := N L L w149 L
def w179 : T4 Blk := N w104 L L (N (N L D0 D0 D0) (N D0 D0 L L) L L)
def w180 : T4 Blk := N (N L (N L D0 D0 D0) L L) w107 L L
def w181 : T4 Blk := N (N w131 w134 w163 (N w141 w142 (N (N L (N L D0 D0 D0) (N D0 L L L) (N L (V b149) L (V b87))) w54 (N L L (N D0 L L L) L) L) w144)) w150 w166 (N w170 w172 (N w173 w175 w176 (N L w177 (N L L L D1) (N (N D0 D0 D0 (V b98)) (N D0 L L L) (N L L L D0) L))) (N (N (N (N (V b150) L L L) L L L) (N L (N L L L D0) L L) (N L (N L L D0 L) L L) L) w178 w179 w180))
def w182 : T4 Blk := N L (N L L L D0) (N D0 L L L) L
def w183 : T4 Blk := N (N L D0 D0 D0) L (N L L D0 D0) (N D0 L L L)
def w184 : T4 Blk := N (N L L D0 L) (N L D0 D0 L) L L
def w185 : T4 Blk := N L (N L L L D0) (N D0 D0 L L) L
def w186 : T4 Blk := N (N L L D0 L) L (N L L L D0) L
def w187 : T4 Blk := N (N D0 L L L) L (N L L D0 D0) (N D0 L L L)
def w188 : T4 Blk := N L (N L L L D0) (N L L D0 D0) D1
def w189 : T4 Blk := N (N L D0 D0 D0) D1 D1 L
def w190 : T4 Blk := N (N (N L w122 (N (N L L L D0) L L (N L L L D0)) (N (N L L D0 D0) D1 D1 D1)) (N D2 (N D1 D1 D1 L) L (N D1 (N D0 L L L) L L)) (N w62 (N L (N D0 D0 D0 L) L (N L L L D0)) L L) (N L L L w177)) (N (N (N L L D1 L) L L (N L L (N L L L D0) L)) (N (N L L (N L L L D0) D1) (N D1 (N D0 D0 L L) L L) (N L (N D0 L L L) L L) w182) (N (N L L L (N L D0 D0 D0)) (N D1 D1 (N D0 (V b85) D0 L) L) L L) (N (N L L L (N L L L D0)) w183 w184 (N L L L (N L L D0 L)))) (N (N (N (N D0 D0 D0 L) L L L) w185 L (N D1 (N D0 D0 L L) L L)) (N w186 (N L (N L D0 D0 D0) L L) (N (N D0 D0 L L) L L L) D2) (N (N (N D0 D0 L L) L L L) w116 (N L (N L L L D0) L L) w187) (N (N L (N L D0 L L) L L) L L L)) (N (N L w188 (N D1 L L (N L L D0 D0)) (N (N D0 D0 L L) L L L)) (N L L (N (N L D0 L L) L L L) w189) (N (N L L (N L L D0 L) L) (N L L L (N L D0 D0 L)) L (N (N L L L D0) D1 D1 (N D0 D0 D0 (V b98)))) (N (N (N D0 L L L) L L L) w124 L L))
def w191 : T4 Blk := N (N L L D0 D0) D1 (N D0 D0 D0 L) L
def w192 : T4 Blk := N L D1 (N D0 D0 D0 L) L
def w193 : T4 Blk := N (N L (N L L L (N L D0 L D0)) (N (N D0 D0 L L) L L L) w147) (N (N L L L (N L L L D0)) w191 L w83) (N L w192 L w73) (N w74 (N L (N L L D0 D0) D1 L) (N L L (N D0 D0 D0 L) L) L)
def w194 : T4 Blk := N w73 w74 w75 (N L L L (N L D0 L L))
def w195 : T4 Blk := N L L D1 (N D0 D0 D0 (V b85))
def w196 : T4 Blk := N (N (N L L L D0) L L L) (N (N L L D0 L) L L L) L L
def w197 : T4 Blk := N w194 (N w145 w195 (N (N D0 L L L) (N L L L D0) L (N (V b151) L L L)) L) w196 (N L w182 L (N (N L L L D0) (N D0 D0 D0 L) (N L L L (V b152)) (N L (V b87) L D0)))
def w198 : T4 Blk := N (N (N L D0 D0 L) L L L) L w164 (N L L L (N L D0 D0 D0))
def w199 : T4 Blk := N w109 L L L
def y10902 : Tr Blk := ⟨N (N (N D1 (N (V b138) D0 D0 D0) (N D0 D0 L L) (N L L D0 L)) w120 w154 w155) w156 w20 w158, w162, N (N L w181 (N w190 (N w193 w197 (N w198 w199 (N (N L L L (N L L D0 L)) (N (N D0 D0 D0 L) L L L) (N L (N L D0 L L) L L) (N L L (N L L L D0) (N D0 (V b153) L L))) L) L) L L) L) L L L⟩
def e10902 : Fact := .st 13 [p 4 0, u6 2, .string ⟨⟨[98]⟩⟩, .string ⟨⟨[66]⟩⟩, i6 2] y9651 6876 (t) y10902 9918
theorem s10902 : Ev.stOK [] [(0, [.int .u8 0, .int .u8 1, .int .u8 56, .int .u8 2, .int .u8 57, .int .u8 49, .int .u8 28, .int .u8 3, .int .u8 61, .int .u8 58, .int .u8 42, .int .u8 50, .int .u8 38, .int .u8 29, .int .u8 17, .int .u8 4, .int .u8 62, .int .u8 47, .int .u8 59, .int .u8 36, .int .u8 45, .int .u8 43, .int .u8 51, .int .u8 22, .int .u8 53, .int .u8 39, .int .u8 33, .int .u8 30, .int .u8 24, .int .u8 18, .int .u8 12, .int .u8 5, .int .u8 63, .int .u8 55, .int .u8 48, .int .u8 27, .int .u8 60, .int .u8 41, .int .u8 37, .int .u8 16, .int .u8 46, .int .u8 35, .int .u8 44, .int .u8 21, .int .u8 52, .int .u8 32, .int .u8 23, .int .u8 11, .int .u8 54, .int .u8 26, .int .u8 40, .int .u8 15, .int .u8 34, .int .u8 20, .int .u8 31, .int .u8 10, .int .u8 25, .int .u8 14, .int .u8 19, .int .u8 9, .int .u8 13, .int .u8 8, .int .u8 7, .int .u8 6])] Tryz.prog 5000 60 13 [p 4 0, u6 2, .string ⟨⟨[98]⟩⟩, .string ⟨⟨[66]⟩⟩, i6 2] y9651 6876 (t) y10902 = true := by kernel_rfl
theorem h10902 {σ : Nat → Value} {T : List Fact} (hb : ∀ t, isBld t T = isBld t []) : @Fact.Holds ⟨T, [(0, [.int .u8 0, .int .u8 1, .int .u8 56, .int .u8 2, .int .u8 57, .int .u8 49, .int .u8 28, .int .u8 3, .int .u8 61, .int .u8 58, .int .u8 42, .int .u8 50, .int .u8 38, .int .u8 29, .int .u8 17, .int .u8 4, .int .u8 62, .int .u8 47, .int .u8 59, .int .u8 36, .int .u8 45, .int .u8 43, .int .u8 51, .int .u8 22, .int .u8 53, .int .u8 39, .int .u8 33, .int .u8 30, .int .u8 24, .int .u8 18, .int .u8 12, .int .u8 5, .int .u8 63, .int .u8 55, .int .u8 48, .int .u8 27, .int .u8 60, .int .u8 41, .int .u8 37, .int .u8 16, .int .u8 46, .int .u8 35, .int .u8 44, .int .u8 21, .int .u8 52, .int .u8 32, .int .u8 23, .int .u8 11, .int .u8 54, .int .u8 26, .int .u8 40, .int .u8 15, .int .u8 34, .int .u8 20, .int .u8 31, .int .u8 10, .int .u8 25, .int .u8 14, .int .u8 19, .int .u8 9, .int .u8 13, .int .u8 8, .int .u8 7, .int .u8 6])]⟩ Tryz.prog σ e10902 :=
  Fact.stI s10902 (by kernel_rfl) (Ev.hnil) (fun t => (hb t).trans rfl)
end Go.Proofs.YtcmcmmedcodmpaaGreatDoor.Q42known
