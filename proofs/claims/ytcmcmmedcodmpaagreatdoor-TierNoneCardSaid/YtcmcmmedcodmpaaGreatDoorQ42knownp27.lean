/-
  The examples of a chapter, part 27: calls that are evaluated from a heap to a heap.
-/
import Derived.Test.YtcmcmmedcodmpaaGreatDoorQ42knownp26
namespace Go.Proofs.YtcmcmmedcodmpaaGreatDoor.Q42known
open Go Go.RowKit Go.Proofs.YtcmcmmedcodmpaaGreatDoor.Ev Go.Proofs.YtcmcmmedcodmpaaGreatDoor.Ev.Sh
set_option maxRecDepth 100000
def b311l : List Value := [f, f, p 13804 0, p 14027 0, g 20677 0 6 2 2]
def b311 : Blk := .cells 35 b311l
def b312l : List Value := [t, i6 1, g 19084 0 4 3 3]
def b312 : Blk := .cells 221 b312l
def b313 : Blk := .map [⟨u3 2, .agg ⟨[u3 2, u6 5, u6 3]⟩, 2⟩] 3
def b314 : Blk := .map [⟨u3 1, i6 50, 1⟩, ⟨u3 0, i6 50, 2⟩] 3
def b315l : List Value := [u3 1, u3 2, .int .i32 (.ofNat 0), u3 2, u3 0, .int .i32 (.ofNat 0), u3 0, u3 1, .int .i32 (.ofNat 0)]
def b315 : Blk := .cells 303 b315l
def b316l : List Value := [.string ⟨⟨[]⟩⟩, sn, u6 0, u6 0, .string ⟨⟨[]⟩⟩, sn, u6 0, u6 0, .string ⟨⟨[97]⟩⟩, g 19071 0 1 1 1, u6 5, u6 3]
def b316 : Blk := .cells 59 b316l
def b317l : List Value := [i6 2, .string ⟨⟨[97]⟩⟩, g 17278 0 1 1 1, u6 1, u6 5, u6 1, i6 2, .string ⟨⟨[98]⟩⟩, g 20149 0 1 1 1, u6 2, u6 18446744073709551615, u6 2]
def b317 : Blk := .cells 67 b317l
def w381 : T4 Blk := N (N D0 D0 (V b122) (V b245)) L L L
def w382 : T4 Blk := N w256 (N (N L L (V b20) L) (N (V b21) L (V b205) L) (N (V b206) (V b313) (V b126) (V b207)) (N (V b127) D0 D0 D0)) w313 (N (N L (V b4) L (V b5)) (N L (V b211) L (V b212)) (N (V b314) (V b266) (V b267) L) L)
def w383 : T4 Blk := N (N w324 (N (N L L L (N D0 L L D0)) (N D1 D1 (N D0 L L L) L) (N L (N L L L D0) D1 D1) w349) w326 w327) w374 w333 w334
def w384 : T4 Blk := N w344 (N (N (N L D0 D0 D0) L L L) (N (N D0 L L L) L L L) w75 L) w352 w353
def w385 : T4 Blk := N w89 (N L L (N L D0 D0 D0) L) (N L (N D0 D0 L L) L L) (N L D1 D1 (N D0 L L L))
def w386 : T4 Blk := N w359 w360 w218 w385
def w387 : T4 Blk := N w362 (N w109 (N L L (N L L L D0) D1) (N L L L (N L L L D0)) w191) w375 w376
def w388 : T4 Blk := N (N L L L (N L D0 D0 D0)) (N (N D0 D0 L L) L L L) w129 (N (N L D0 D0 D0) L L L)
def w389 : T4 Blk := N (N D0 D0 D0 L) L (N L L L D0) L
def w390 : T4 Blk := N (N L L (N L L L (N L D0 D0 D0)) (N D1 (N D0 D0 L L) L (N L L L D0))) (N w66 D2 D2 (N D1 D1 L L)) (N (N L L L D1) w235 (N L (N L L D0 L) L L) w389) L
def w391 : T4 Blk := N (N (N L L L (N L D0 L L)) w145 (N L D1 L L) L) (N L (N L (N L L L D0) L L) (N L (N L L L D0) D1 D1) (N (N D0 D0 L L) L L L)) (N (N (N D0 L L L) L L L) w215 w147 (N D1 (N D0 (V b98) D0 L) L L)) (N L L w109 (N L (N L L D0 D0) (N D0 D0 L L) (N L L L D0)))
def w392 : T4 Blk := N (N (N (N L L D0 D0) L L L) w109 L (N L D1 L L)) w148 (N (N L L L (N L L D0 D0)) (N D1 (N D0 D0 D0 L) L (N D0 D0 D0 L)) w93 L) (N L (N L L L (N D0 L L L)) L (N L L (N L L L D0) L))
def w393 : T4 Blk := N w383 (N w339 (N w340 (N L (N L L (N L L D0 D0) L) L (N L (N L L D0 D0) (N D0 D0 L L) (N L L (V b315) L))) w341 w342) w384 w357) (N w386 w387 (N w365 w366 (N (N (N D0 L L L) (N L L L D0) L (N (V b316) L L L)) L (N (N L L L D0) L L L) (N (N L L D0 L) L L L)) w377) w379) (N (N w380 L (N (N (N L L L D0) (N D0 D0 D0 L) (N L L L (V b134)) (N L (V b87) L D0)) (N (N L D0 D0 D0) L L L) (N L (N L L D0 L) L L) L) w388) w390 w391 w392)
def w394 : T4 Blk := N L (N L (N L L L D0) D1 L) (N L L L (N L D0 D0 D0)) w109
def w395 : T4 Blk := N (N (N D0 D0 D0 L) L L L) (N L L L (N L L L D0)) w206 L
def y23374 : Tr Blk := ⟨w231, w223, N (N L w213 w226 (N w232 (N w234 (N w236 w237 (N (N (N L L D0 L) L L L) (N L (N D0 L L L) L L) (N (N L D0 L L) L L L) (N L (N L L L D0) (N (V b170) D0 D0 D0) (N D0 (V b311) D0 D0))) (N w372 (N (N L L (V b4) L) (N (V b5) L (V b176) L) (N (V b177) (V b120) (V b244) (V b90)) L) w345 w381)) (N (N (N (N L (V b180) L (V b181)) (N L (V b312) (V b305) (V b306)) (N (V b279) L L L) L) w373 w244 w246) w254 w382 w347) w318) w319 w323)) (N w393 (N (N (N w394 w201 w395 (N (N L (N D0 (V b317) L L) L L) L L L)) L L L) L L L) L L) L L⟩
def e23374 : Fact := .st 13 [p 13757 0, u6 2, .string ⟨⟨[97]⟩⟩, .string ⟨⟨[65]⟩⟩, i6 2] y22478 18024 (t) y23374 20678
theorem s23374 : Ev.stOK [e23715] [(0, [.int .u8 0, .int .u8 1, .int .u8 56, .int .u8 2, .int .u8 57, .int .u8 49, .int .u8 28, .int .u8 3, .int .u8 61, .int .u8 58, .int .u8 42, .int .u8 50, .int .u8 38, .int .u8 29, .int .u8 17, .int .u8 4, .int .u8 62, .int .u8 47, .int .u8 59, .int .u8 36, .int .u8 45, .int .u8 43, .int .u8 51, .int .u8 22, .int .u8 53, .int .u8 39, .int .u8 33, .int .u8 30, .int .u8 24, .int .u8 18, .int .u8 12, .int .u8 5, .int .u8 63, .int .u8 55, .int .u8 48, .int .u8 27, .int .u8 60, .int .u8 41, .int .u8 37, .int .u8 16, .int .u8 46, .int .u8 35, .int .u8 44, .int .u8 21, .int .u8 52, .int .u8 32, .int .u8 23, .int .u8 11, .int .u8 54, .int .u8 26, .int .u8 40, .int .u8 15, .int .u8 34, .int .u8 20, .int .u8 31, .int .u8 10, .int .u8 25, .int .u8 14, .int .u8 19, .int .u8 9, .int .u8 13, .int .u8 8, .int .u8 7, .int .u8 6])] Tryz.prog 5000 60 13 [p 13757 0, u6 2, .string ⟨⟨[97]⟩⟩, .string ⟨⟨[65]⟩⟩, i6 2] y22478 18024 (t) y23374 = true := by kernel_rfl
theorem h23374 {σ : Nat → Value} {T : List Fact} (hb : ∀ t, isBld t T = isBld t []) : @Fact.Holds ⟨T, [(0, [.int .u8 0, .int .u8 1, .int .u8 56, .int .u8 2, .int .u8 57, .int .u8 49, .int .u8 28, .int .u8 3, .int .u8 61, .int .u8 58, .int .u8 42, .int .u8 50, .int .u8 38, .int .u8 29, .int .u8 17, .int .u8 4, .int .u8 62, .int .u8 47, .int .u8 59, .int .u8 36, .int .u8 45, .int .u8 43, .int .u8 51, .int .u8 22, .int .u8 53, .int .u8 39, .int .u8 33, .int .u8 30, .int .u8 24, .int .u8 18, .int .u8 12, .int .u8 5, .int .u8 63, .int .u8 55, .int .u8 48, .int .u8 27, .int .u8 60, .int .u8 41, .int .u8 37, .int .u8 16, .int .u8 46, .int .u8 35, .int .u8 44, .int .u8 21, .int .u8 52, .int .u8 32, .int .u8 23, .int .u8 11, .int .u8 54, .int .u8 26, .int .u8 40, .int .u8 15, .int .u8 34, .int .u8 20, .int .u8 31, .int .u8 10, .int .u8 25, .int .u8 14, .int .u8 19, .int .u8 9, .int .u8 13, .int .u8 8, .int .u8 7, .int .u8 6])]⟩ Tryz.prog σ e23374 :=
  Fact.stI s23374 (by kernel_rfl) (Ev.hcons (h23715 (fun _ => rfl)) (Ev.hnil)) (fun t => (hb t).trans rfl)
def b318l : List Value := [f, f, p 13804 0, p 14027 0, g 21417 0 6 2 2]
def b318 : Blk := .cells 35 b318l
def b319 : Blk := .map [⟨u3 2, i6 50, 3⟩] 4
def b320l : List Value := [t, u6 4, p 13850 0, p 13868 0, p 13886 0, p 13904 0, p 13922 0, p 13940 0, p 13958 0, p 13976 0, .map (some 13830), .map (some 13831)]
def b320 : Blk := .cells 230 b320l
def b321l : List Value := [t, u6 4, p 14073 0, p 14091 0, p 14109 0, p 14127 0, p 14145 0, p 14163 0, p 14181 0, p 14199 0, .map (some 14053), .map (some 14054)]
def b321 : Blk := .cells 230 b321l
def b322l : List Value := [f, f, p 13804 0, p 14027 0, g 23028 0 6 4 4]
def b322 : Blk := .cells 35 b322l
def b323l : List Value := [t, i6 0, g 19084 0 4 3 3]
def b323 : Blk := .cells 221 b323l
def b324 : Blk := .map [] 2
def b325l : List Value := [t, u6 5, p 13850 0, p 13868 0, p 13886 0, p 13904 0, p 13922 0, p 13940 0, p 13958 0, p 13976 0, .map (some 13830), .map (some 13831)]
def b325 : Blk := .cells 230 b325l
def b326l : List Value := [u6 0, u6 1, u6 2, u6 0, u6 0, u6 0, t, pn, pn, i6 0]
def b326 : Blk := .cells 184 b326l
def b327 : Blk := .map [⟨u3 1, i6 50, 1⟩] 3
def b328l : List Value := [t, i6 1, g 17647 0 4 2 2]
def b328 : Blk := .cells 221 b328l
def b329l : List Value := [t, u6 5, p 14073 0, p 14091 0, p 14109 0, p 14127 0, p 14145 0, p 14163 0, p 14181 0, p 14199 0, .map (some 14053), .map (some 14054)]
def b329 : Blk := .cells 230 b329l
def b330l : List Value := [u6 0, u6 1, u6 0, u6 0, u6 0, u6 0, t, pn, pn, i6 0]
def b330 : Blk := .cells 184 b330l
def b331l : List Value := [.string ⟨⟨[]⟩⟩, sn, u6 0, u6 0, .string ⟨⟨[98]⟩⟩, g 17634 0 1 1 1, u6 18446744073709551615, u6 2]
def b331 : Blk := .cells 59 b331l
def b332l : List Value := [u3 1, u3 2, .int .i32 (.negSucc 0), u3 2, u3 2, .int .i32 (.ofNat 0), u3 1, u3 1, .int .i32 (.ofNat 0)]
def b332 : Blk := .cells 303 b332l
def b333l : List Value := (((b309l).set 8 (.int .i32 (.negSucc 0))).set 24 (u3 8)).set 25 (u3 8)
def b333 : Blk := .cells 303 b333l
def b334l : List Value := [u3 0, u3 0, .int .i32 (.negSucc 0), u3 4, u3 2, .int .i32 (.negSucc 0), u3 4, u3 4, .int .i32 (.negSucc 0), u3 0, u3 0, .int .i32 (.negSucc 0), u3 4, u3 4, .int .i32 (.ofNat 0)]
def b334 : Blk := .cells 303 b334l
def b335l : List Value := [i6 2, .string ⟨⟨[97]⟩⟩, g 17278 0 1 1 1, u6 1, u6 5, u6 1, i6 2, .string ⟨⟨[98]⟩⟩, g 20149 0 1 1 1, u6 2, u6 18446744073709551615, u6 2, i6 1, .string ⟨⟨[97]⟩⟩, g 21867 0 1 1 1, u6 3, u6 5, u6 5, i6 1, .string ⟨⟨[97]⟩⟩, g 22421 0 1 1 1, u6 1, u6 5, u6 5]
def b335 : Blk := .cells 67 b335l
def w396 : T4 Blk := N w394 w201 w395 (N (N L D1 L L) (N L L L (N L L L D0)) (N (N L D0 D0 D0) L L L) L)
def w397 : T4 Blk := N w108 (N w84 (N (N L D0 D0 L) L L L) w124 L) (N (N L L L (N L L D0 L)) (N (N D0 D0 D0 L) L L L) L L) (N L (N (N L D0 L D0) (N D0 D0 L L) L D1) (N L (N L D0 L L) (N D0 D0 L L) L) L)
def w398 : T4 Blk := N (N w54 w225 L (N L D1 (N D0 D0 L L) L)) w385 (N (N (N L L D0 D0) (N D0 L L L) L (N L L L D0)) (N (N D0 D0 D0 L) L L L) L L) (N (N (N L L D0 L) L L L) L (N (N L D0 L L) L L L) (N L L L (N L D0 D0 D0)))
def w399 : T4 Blk := N (N (N D0 D0 L L) L L L) w143 w54 L
def w400 : T4 Blk := N L L w130 L
def x25694 : Tr Blk := ⟨w231, w223, N (N L w213 w226 (N w232 (N w234 (N w236 w237 (N (N (N L L D0 L) L L L) (N L (N D0 L L L) L L) (N (N L D0 L L) L L L) (N L (N L L L D0) (N (V b170) D0 D0 D0) (N D0 (V b318) D0 D0))) (N w372 (N (N L L (V b4) L) (N (V b5) L (V b176) L) (N (V b177) (V b319) (V b244) (V b90)) L) w345 w381)) (N (N (N (N L (V b180) L (V b181)) (N L (V b312) (V b305) (V b306)) (N (V b320) L L L) L) w373 w244 w246) w254 w382 (N w316 w317 (N (N (V b215) L (V b216) L) (N (V b270) (V b247) (V b248) (V b321)) L L) w288)) w318) w319 w323)) (N w393 (N (N w396 w397 w398 (N w399 w400 (N (N L (N L D0 L L) L L) (N (N L L D0 L) L L L) (N L L (N D0 (V b317) L L) L) L) L)) L L L) L L) L L⟩
def y25694 : Tr Blk := ⟨w231, w223, N (N L w213 w226 (N w232 (N w234 (N w236 w237 (N (N (N L L D0 L) L L L) (N L (N D0 L L L) L L) (N (N L D0 L L) L L L) (N L (N L L L D0) (N (V b170) D0 D0 D0) (N D0 (V b322) D0 D0))) (N w372 (N (N L L (V b4) L) (N (V b5) L (V b176) L) (N (V b177) (V b156) (V b178) (V b12)) L) w345 w239)) (N (N (N (N L (V b180) L (V b181)) (N L (V b323) (V b324) (V b324)) (N (V b325) L L L) L) (N L (N D0 L D0 L) (N (V b300) L (V b184) L) L) w244 w246) w254 (N w256 (N (N L L (V b20) L) (N (V b21) L (V b205) L) (N (V b206) (V b165) (V b165) (V b207)) (N (V b326) D0 D0 D0)) w313 (N (N L (V b4) L (V b5)) (N L (V b211) L (V b212)) (N (V b327) (V b252) (V b110) L) L)) (N w316 (N (N D0 (V b103) (V b253) L) L L L) (N (N (V b215) L (V b216) L) (N (V b328) (V b261) (V b261) (V b329)) L L) (N (N L L L (V b263)) (N L (V b21) L (V b218)) (N L (V b219) L L) L))) (N w277 (N w280 w283 w284 (N (N L (V b20) L (V b21)) (N L (V b241) L (V b242)) (N (V b106) (V b107) (V b243) (V b330)) (N (V b85) D0 D0 L))) w289 w132)) w319 (N (N w299 (N w300 w301 (N L (N L D0 D0 D0) D1 (N D0 D0 L L)) w320) w303 w304) w307 w321 w322))) (N (N w383 (N (N w336 w337 w338 (N w95 (N L L (N L L L D0) D1) (N (N D0 D0 (V b98) D0) L (N L L D0 L) (N L L L (V b331))) L)) (N w340 (N L (N L L (N L L D0 D0) L) L (N L (N L L D0 D0) (N D0 D0 L L) (N L L (V b332) L))) (N w98 (N L L (N L D0 L L) L) L L) w342) w384 w357) (N w386 w387 (N w365 (N w75 (N L L L (N L D0 L L)) w145 (N L L D1 D1)) (N w224 L (N (N L L L D0) L L L) (N (N L L D0 L) L L L)) w377) (N (N (N (N D0 L L L) L L L) w378 w101 (N (N L L L (V b333)) (N L (V b21) L D0) (N L D0 D0 D0) D1)) D3 D3 D3)) (N (N w380 L (N (N (N L L L D0) (N D0 D0 D0 L) (N L L L (V b334)) (N L (V b5) L D0)) (N (N L D0 D0 D0) L L L) (N L (N L L D0 L) L L) L) w388) w390 w391 w392)) (N (N w396 w397 w398 (N w399 w400 (N (N L (N L D0 L L) L L) (N (N L L D0 L) L L L) (N L L D1 L) L) (N w107 (N L L L D1) (N D1 (N D0 D0 L L) L L) L))) (N (N (N L (N (N L D0 D0 D0) L L L) w205 (N L D1 D1 (N D0 D0 L L))) (N L (N (N L L D0 D0) (N D0 D0 D0 L) L L) w74 w64) (N (N (N L D0 L L) L L L) L L L) (N L (N (N L L L D0) (N L L D0 D0) D1 D1) w225 L)) (N (N L (N L L L (N L D0 L L)) (N L L L (N L D0 D0 D0)) w301) (N (N L L (N L D0 D0 L) L) (N L L L (N L L L D0)) (N D1 D1 (N D0 D0 D0 (V b85)) (N D0 L L L)) L) w202 (N w85 (N L (N D0 D0 L L) L L) (N L L L (N L D0 L D0)) (N (N D0 D0 L L) L L L))) (N (N w332 L L w91) (N (N L L L D1) (N L L L (N L L D0 D0)) (N D1 D1 L L) (N L L L D1)) (N w235 (N L (N L L D0 L) L L) w389 L) (N L L L (N L L L (N L D0 L L)))) (N (N w145 (N L D1 L L) L L) (N (N L (N L L L D0) L L) (N L (N L L L D0) D1 D1) (N (N D0 L L L) L L L) w215) (N w147 (N D1 (N D0 (V b85) D0 L) L L) L w59) w354)) (N (N w355 w356 w359 w360) (N w218 (N w89 w93 w57 L) (N L L w109 (N L L (N L L L D0) L)) (N (N L L L (N L D0 D0 D0)) (N L L L (N D0 L L L)) L (N (N L L D0 D0) (N (V b335) L L L) L L))) L L) L) L L) L L⟩
def e25694 : Fact := .st 13 [p 13757 0, u6 5, .string ⟨⟨[97]⟩⟩, .string ⟨⟨[]⟩⟩, i6 0] x25694 21418 (t) y25694 23029
theorem s25694 : Ev.stOK [] [(0, [.int .u8 0, .int .u8 1, .int .u8 56, .int .u8 2, .int .u8 57, .int .u8 49, .int .u8 28, .int .u8 3, .int .u8 61, .int .u8 58, .int .u8 42, .int .u8 50, .int .u8 38, .int .u8 29, .int .u8 17, .int .u8 4, .int .u8 62, .int .u8 47, .int .u8 59, .int .u8 36, .int .u8 45, .int .u8 43, .int .u8 51, .int .u8 22, .int .u8 53, .int .u8 39, .int .u8 33, .int .u8 30, .int .u8 24, .int .u8 18, .int .u8 12, .int .u8 5, .int .u8 63, .int .u8 55, .int .u8 48, .int .u8 27, .int .u8 60, .int .u8 41, .int .u8 37, .int .u8 16, .int .u8 46, .int .u8 35, .int .u8 44, .int .u8 21, .int .u8 52, .int .u8 32, .int .u8 23, .int .u8 11, .int .u8 54, .int .u8 26, .int .u8 40, .int .u8 15, .int .u8 34, .int .u8 20, .int .u8 31, .int .u8 10, .int .u8 25, .int .u8 14, .int .u8 19, .int .u8 9, .int .u8 13, .int .u8 8, .int .u8 7, .int .u8 6])] Tryz.prog 5000 60 13 [p 13757 0, u6 5, .string ⟨⟨[97]⟩⟩, .string ⟨⟨[]⟩⟩, i6 0] x25694 21418 (t) y25694 = true := by kernel_rfl
theorem h25694 {σ : Nat → Value} {T : List Fact} (hb : ∀ t, isBld t T = isBld t []) : @Fact.Holds ⟨T, [(0, [.int .u8 0, .int .u8 1, .int .u8 56, .int .u8 2, .int .u8 57, .int .u8 49, .int .u8 28, .int .u8 3, .int .u8 61, .int .u8 58, .int .u8 42, .int .u8 50, .int .u8 38, .int .u8 29, .int .u8 17, .int .u8 4, .int .u8 62, .int .u8 47, .int .u8 59, .int .u8 36, .int .u8 45, .int .u8 43, .int .u8 51, .int .u8 22, .int .u8 53, .int .u8 39, .int .u8 33, .int .u8 30, .int .u8 24, .int .u8 18, .int .u8 12, .int .u8 5, .int .u8 63, .int .u8 55, .int .u8 48, .int .u8 27, .int .u8 60, .int .u8 41, .int .u8 37, .int .u8 16, .int .u8 46, .int .u8 35, .int .u8 44, .int .u8 21, .int .u8 52, .int .u8 32, .int .u8 23, .int .u8 11, .int .u8 54, .int .u8 26, .int .u8 40, .int .u8 15, .int .u8 34, .int .u8 20, .int .u8 31, .int .u8 10, .int .u8 25, .int .u8 14, .int .u8 19, .int .u8 9, .int .u8 13, .int .u8 8, .int .u8 7, .int .u8 6])]⟩ Tryz.prog σ e25694 :=
  Fact.stI s25694 (by kernel_rfl) (Ev.hnil) (fun t => (hb t).trans rfl)
end Go.Proofs.YtcmcmmedcodmpaaGreatDoor.Q42known
