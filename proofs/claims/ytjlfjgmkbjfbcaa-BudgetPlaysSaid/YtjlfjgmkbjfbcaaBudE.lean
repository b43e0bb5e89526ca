/-
  The law's steps of layer 17 (budget), case by case.
-/
import Derived.Test.YtjlfjgmkbjfbcaaBudJ
set_option linter.unusedVariables false
set_option linter.unusedSimpArgs false
namespace Go.Proofs.Ytjlfjgmkbjfbcaa.Bud
open Go.RowKit Kit
set_option maxRecDepth 100000 in
set_option maxHeartbeats 2000000 in
theorem moveb_bad (b : Nat) (mc mb n0 c0 n1 c1 : Int) (hs : (S.mk mc mb n0 c0 n1 c1).ok) (g x y : Int) (hf : fairI g x = false) (w : World) (hb : Bud w b ⟨mc, mb, n0, c0, n1, c1⟩) :
    Calls Try.prog 13 #[.pointer (some ⟨b, 0, none⟩), sV mc mb n0 n1 c0 c1, .agg #[.int .i64 2, .int .i64 g, .int .i64 x, .int .i64 y]] w (SR b (mc) (mb) (n0) (c0) (n1) (c1) w) := by
  have HO := Lib.hid (fun (v : World) (hv : Bud v b ⟨mc, mb, n0, c0, n1, c1⟩) => Move_bad b ⟨mc, mb, n0, c0, n1, c1⟩ hs g x hf v hv)
  have HF := Lib.hid (fun v => lfair_any g x v)
  rw [hf] at HF
  have X0 := Lib.hid (Sb.start hb mc mb n0 n1 c0 c1 2 g x y)
  have hlt := BoxA.lt hb
  obtain ⟨o1, o2, o3, o4, o5, o6, o7, o8, o9, o10, o11, o12⟩ := hs
  simp only at o1 o2 o3 o4 o5 o6 o7 o8 o9 o10 o11 o12
  clear hb o1 o2 o3 o4 o5 o6 o7 o8 o9 o10 o11 o12 hf
  unfold SR sV
  unfold sO aO at X0
  go_enter Try.func13, Try.ntmps13
  go_wp2_with fail
  refine (HO.out _ X0.out.bud).mono ?_
  rintro e w1 ⟨rfl, hw⟩
  have X1 := Lib.hid (hw ▸ X0.out)
  clear hw X0
  obtain ⟨⟨s0, s1, s2, s3, s4, s5⟩, sf⟩ := X1.out.cs
  obtain ⟨a0, a1, a2, a3⟩ := X1.out.ca
  obtain ⟨⟨z0, z1, z2, z3, z4, z5⟩, zf⟩ := X1.out.cz
  have hsz := (Array.getElem?_eq_some_iff.1 X1.out.z).1
  go_wp2_with fail
  refine (HF.out _).mono ?_
  rintro e wx ⟨rfl, rfl⟩
  clear s0 s1 s2 s3 s4 s5 sf a0 a1 a2 a3 z0 z1 z2 z3 z4 z5 zf hsz
  obtain ⟨⟨s0, s1, s2, s3, s4, s5⟩, sf⟩ := X1.out.cs
  obtain ⟨⟨z0, z1, z2, z3, z4, z5⟩, zf⟩ := X1.out.cz
  have hsz := (Array.getElem?_eq_some_iff.1 X1.out.z).1
  go_wp2_with fail
  apply region_once
  case first =>
    go_region_with fail
    all_goals exact ⟨rfl, rfl⟩
  have RF := Lib.hid (X1.out.find (mc) (mb) (n0) (n1) (c0) (c1))
  unfold put6 at RF
  generalize (((((((w1.setCell ⟨w.heap.size + 1 + 1, 0, none⟩ (.int .i64 (mc))).setCell ⟨w.heap.size + 1 + 1, 1, none⟩ (.int .i64 (mb))).setCell ⟨w.heap.size + 1 + 1, 2, none⟩ (.int .i64 (n0))).setCell ⟨w.heap.size + 1 + 1, 3, none⟩ (.int .i64 (n1))).setCell ⟨w.heap.size + 1 + 1, 4, none⟩ (.int .i64 (c0))).setCell ⟨w.heap.size + 1 + 1, 5, none⟩ (.int .i64 (c1)))).drew = U at *
  go_wp2_with fail
  obtain ⟨u0, u1, u2, u3, u4, u5⟩ := s_cells RF.out.2.2
  refine bodyPost_ret (v := .tuple #[.pointer (some ⟨b, 0, none⟩), sV (mc) (mb) (n0) (n1) (c0) (c1), .bool true]) (by simp [sV, results, u0, u1, u2, u3, u4, u5, Try.results13, go_sem]) rfl ⟨rfl, RF.out.1, RF.out.2.1⟩
set_option maxRecDepth 100000 in
set_option maxHeartbeats 2000000 in
theorem st_move_none0 (b : Nat) (mc mb n0 c0 n1 c1 : Int) (hs : (S.mk mc mb n0 c0 n1 c1).ok) (x y : Int) (hx0 : 0 ≤ x) (hx1 : x ≤ 1099511627776) (hz : n0 = 0 → c0 = 0) (hfit : n1 + 1 ≤ 2097152 ∧ c1 + x ≤ 2305843009213693952) (hh : hasB n0 c0 x = false) (w : World) (hb : Bud w b ⟨mc, mb, n0, c0, n1, c1⟩) :
    Calls Try.prog 13 #[.pointer (some ⟨b, 0, none⟩), sV mc mb n0 n1 c0 c1, .agg #[.int .i64 2, .int .i64 0, .int .i64 x, .int .i64 y]] w (SR b (mc) (mb) (n0) (c0) (n1) (c1) w) := by
  have HO := Lib.hid (fun (v : World) (hv : Bud v b ⟨mc, mb, n0, c0, n1, c1⟩) => Move_none0 b mc mb n0 c0 n1 c1 hs x hx0 hx1 hfit hh v hv)
  have HF := Lib.hid (fun v => lfair_any 0 x v)
  have hHF : fairI 0 x = true := by unfold fairI; simp; omega
  rw [hHF] at HF
  have HTH := Lib.hid (lthere0 mc mb n0 n1 c0 c1 x)
  rw [thB_has (by have := hs; obtain ⟨-, -, -, -, q1, -, -, -, q2, -, -, -⟩ := this; exact q1) hz hx0, hh] at HTH
  have X0 := Lib.hid (Sb.start hb mc mb n0 n1 c0 c1 2 0 x y)
  have hlt := BoxA.lt hb
  obtain ⟨o1, o2, o3, o4, o5, o6, o7, o8, o9, o10, o11, o12⟩ := hs
  simp only at o1 o2 o3 o4 o5 o6 o7 o8 o9 o10 o11 o12
  have hw1 : IntKind.i64.wrap (n0 - 1) = n0 - 1 := IntWalk.i64_in _ (by omega)
  have hw2 : IntKind.i64.wrap (c0 - x) = c0 - x := IntWalk.i64_in _ (by omega)
  have hw3 : IntKind.i64.wrap (n1 + 1) = n1 + 1 := IntWalk.i64_in _ (by omega)
  have hw4 : IntKind.i64.wrap (c1 + x) = c1 + x := IntWalk.i64_in _ (by omega)
  clear hb o1 o2 o3 o4 o5 o6 o7 o8 o9 o10 o11 o12 hHF hh hz hfit
  unfold SR sV
  unfold sO aO at X0
  go_enter Try.func13, Try.ntmps13
  go_wp2_with fail
  refine (HO.out _ X0.out.bud).mono ?_
  rintro e w1 ⟨rfl, k1⟩
  have X1 := Lib.hid (X0.out.grow k1)
  clear k1 X0
  obtain ⟨⟨s0, s1, s2, s3, s4, s5⟩, sf⟩ := X1.out.cs
  obtain ⟨a0, a1, a2, a3⟩ := X1.out.ca
  obtain ⟨⟨z0, z1, z2, z3, z4, z5⟩, zf⟩ := X1.out.cz
  have hsz := (Array.getElem?_eq_some_iff.1 X1.out.z).1
  go_wp2_with fail
  refine (HF.out _).mono ?_
  rintro e wx ⟨rfl, rfl⟩
  go_wp2_with fail
  refine (HTH.out _).mono ?_
  rintro e w2 ⟨rfl, k2⟩
  have X2 := Lib.hid (X1.out.grow k2)
  clear k2 X1 s0 s1 s2 s3 s4 s5 sf a0 a1 a2 a3 z0 z1 z2 z3 z4 z5 zf hsz
  obtain ⟨⟨s0, s1, s2, s3, s4, s5⟩, sf⟩ := X2.out.cs
  obtain ⟨a0, a1, a2, a3⟩ := X2.out.ca
  obtain ⟨⟨z0, z1, z2, z3, z4, z5⟩, zf⟩ := X2.out.cz
  have hsz := (Array.getElem?_eq_some_iff.1 X2.out.z).1
  clear s0 s1 s2 s3 s4 s5 sf a0 a1 a2 a3 z0 z1 z2 z3 z4 z5 zf hsz
  obtain ⟨⟨s0, s1, s2, s3, s4, s5⟩, sf⟩ := X2.out.cs
  obtain ⟨⟨z0, z1, z2, z3, z4, z5⟩, zf⟩ := X2.out.cz
  have hsz := (Array.getElem?_eq_some_iff.1 X2.out.z).1
  go_wp2_with fail
  apply region_once
  case first =>
    go_region_with fail
    all_goals exact ⟨rfl, rfl⟩
  have RF := Lib.hid (X2.out.find (mc) (mb) (n0) (n1) (c0) (c1))
  unfold put6 at RF
  generalize (((((((w2.setCell ⟨w.heap.size + 1 + 1, 0, none⟩ (.int .i64 (mc))).setCell ⟨w.heap.size + 1 + 1, 1, none⟩ (.int .i64 (mb))).setCell ⟨w.heap.size + 1 + 1, 2, none⟩ (.int .i64 (n0))).setCell ⟨w.heap.size + 1 + 1, 3, none⟩ (.int .i64 (n1))).setCell ⟨w.heap.size + 1 + 1, 4, none⟩ (.int .i64 (c0))).setCell ⟨w.heap.size + 1 + 1, 5, none⟩ (.int .i64 (c1)))).drew = U at *
  go_wp2_with fail
  obtain ⟨u0, u1, u2, u3, u4, u5⟩ := s_cells RF.out.2.2
  refine bodyPost_ret (v := .tuple #[.pointer (some ⟨b, 0, none⟩), sV (mc) (mb) (n0) (n1) (c0) (c1), .bool true]) (by simp [sV, results, u0, u1, u2, u3, u4, u5, Try.results13, go_sem]) rfl ⟨rfl, RF.out.1, RF.out.2.1⟩
set_option maxRecDepth 100000 in
set_option maxHeartbeats 2000000 in
theorem st_move_ok0 (b : Nat) (mc mb n0 c0 n1 c1 : Int) (hs : (S.mk mc mb n0 c0 n1 c1).ok) (x y : Int) (hx0 : 0 ≤ x) (hx1 : x ≤ 1099511627776) (hz : n0 = 0 → c0 = 0) (hfit : n1 + 1 ≤ 2097152 ∧ c1 + x ≤ 2305843009213693952) (hh : hasB n0 c0 x = true) (w : World) (hb : Bud w b ⟨mc, mb, n0, c0, n1, c1⟩) :
    Calls Try.prog 13 #[.pointer (some ⟨b, 0, none⟩), sV mc mb n0 n1 c0 c1, .agg #[.int .i64 2, .int .i64 0, .int .i64 x, .int .i64 y]] w (SR b (mc) (mb) (n0 - 1) (c0 - x) (n1 + 1) (c1 + x) w) := by
  have HO := Lib.hid (fun (v : World) (hv : Bud v b ⟨mc, mb, n0, c0, n1, c1⟩) => Move_ok0 b mc mb n0 c0 n1 c1 hs x hx0 hx1 hfit hh v hv)
  have HF := Lib.hid (fun v => lfair_any 0 x v)
  have hHF : fairI 0 x = true := by unfold fairI; simp; omega
  rw [hHF] at HF
  have HTH := Lib.hid (lthere0 mc mb n0 n1 c0 c1 x)
  rw [thB_has (by have := hs; obtain ⟨-, -, -, -, q1, -, -, -, q2, -, -, -⟩ := this; exact q1) hz hx0, hh] at HTH
  have X0 := Lib.hid (Sb.start hb mc mb n0 n1 c0 c1 2 0 x y)
  have hlt := BoxA.lt hb
  obtain ⟨o1, o2, o3, o4, o5, o6, o7, o8, o9, o10, o11, o12⟩ := hs
  simp only at o1 o2 o3 o4 o5 o6 o7 o8 o9 o10 o11 o12
  have hw1 : IntKind.i64.wrap (n0 - 1) = n0 - 1 := IntWalk.i64_in _ (by omega)
  have hw2 : IntKind.i64.wrap (c0 - x) = c0 - x := IntWalk.i64_in _ (by omega)
  have hw3 : IntKind.i64.wrap (n1 + 1) = n1 + 1 := IntWalk.i64_in _ (by omega)
  have hw4 : IntKind.i64.wrap (c1 + x) = c1 + x := IntWalk.i64_in _ (by omega)
  clear hb o1 o2 o3 o4 o5 o6 o7 o8 o9 o10 o11 o12 hHF hh hz hfit
  unfold SR sV
  unfold sO aO at X0
  go_enter Try.func13, Try.ntmps13
  go_wp2_with fail
  refine (HO.out _ X0.out.bud).mono ?_
  rintro e w1 ⟨rfl, h1, k1⟩
  have X1 := Lib.hid (X0.out.op h1 k1)
  clear h1 k1 X0
  obtain ⟨⟨s0, s1, s2, s3, s4, s5⟩, sf⟩ := X1.out.cs
  obtain ⟨a0, a1, a2, a3⟩ := X1.out.ca
  obtain ⟨⟨z0, z1, z2, z3, z4, z5⟩, zf⟩ := X1.out.cz
  have hsz := (Array.getElem?_eq_some_iff.1 X1.out.z).1
  go_wp2_with fail
  refine (HF.out _).mono ?_
  rintro e wx ⟨rfl, rfl⟩
  go_wp2_with fail
  refine (HTH.out _).mono ?_
  rintro e w2 ⟨rfl, k2⟩
  have X2 := Lib.hid (X1.out.grow k2)
  clear k2 X1 s0 s1 s2 s3 s4 s5 sf a0 a1 a2 a3 z0 z1 z2 z3 z4 z5 zf hsz
  obtain ⟨⟨s0, s1, s2, s3, s4, s5⟩, sf⟩ := X2.out.cs
  obtain ⟨a0, a1, a2, a3⟩ := X2.out.ca
  obtain ⟨⟨z0, z1, z2, z3, z4, z5⟩, zf⟩ := X2.out.cz
  have hsz := (Array.getElem?_eq_some_iff.1 X2.out.z).1
  go_wp2_with fail
  apply region_once
  case first =>
    go_region_with fail
    all_goals exact ⟨rfl, rfl⟩
  have X3 := Lib.hid ((X2.out.set0 (n0 - 1) (c0 - x)).grow ((Below.refl _ _).drew))
  clear s0 s1 s2 s3 s4 s5 sf a0 a1 a2 a3 z0 z1 z2 z3 z4 z5 zf hsz X2
  generalize ((w2.setCell ⟨w.heap.size, 2, none⟩ (.int .i64 (n0 - 1))).setCell ⟨w.heap.size, 4, none⟩ (.int .i64 (c0 - x))).drew = V at *
  obtain ⟨⟨s0, s1, s2, s3, s4, s5⟩, sf⟩ := X3.out.cs
  obtain ⟨a0, a1, a2, a3⟩ := X3.out.ca
  obtain ⟨⟨z0, z1, z2, z3, z4, z5⟩, zf⟩ := X3.out.cz
  have hsz := (Array.getElem?_eq_some_iff.1 X3.out.z).1
  go_wp2_with fail
  apply region_once
  case first =>
    go_region_with fail
    all_goals exact ⟨rfl, rfl⟩
  have X4 := Lib.hid ((X3.out.set1 (n1 + 1) (c1 + x)).grow ((Below.refl _ _).drew))
  clear s0 s1 s2 s3 s4 s5 sf a0 a1 a2 a3 z0 z1 z2 z3 z4 z5 zf hsz X3
  generalize ((V.setCell ⟨w.heap.size, 3, none⟩ (.int .i64 (n1 + 1))).setCell ⟨w.heap.size, 5, none⟩ (.int .i64 (c1 + x))).drew = V2 at *
  obtain ⟨⟨s0, s1, s2, s3, s4, s5⟩, sf⟩ := X4.out.cs
  obtain ⟨⟨z0, z1, z2, z3, z4, z5⟩, zf⟩ := X4.out.cz
  have hsz := (Array.getElem?_eq_some_iff.1 X4.out.z).1
  go_wp2_with fail
  apply region_once
  case first =>
    go_region_with fail
    all_goals exact ⟨rfl, rfl⟩
  have RF := Lib.hid (X4.out.find (mc) (mb) (n0 - 1) (n1 + 1) (c0 - x) (c1 + x))
  unfold put6 at RF
  generalize (((((((V2.setCell ⟨w.heap.size + 1 + 1, 0, none⟩ (.int .i64 (mc))).setCell ⟨w.heap.size + 1 + 1, 1, none⟩ (.int .i64 (mb))).setCell ⟨w.heap.size + 1 + 1, 2, none⟩ (.int .i64 (n0 - 1))).setCell ⟨w.heap.size + 1 + 1, 3, none⟩ (.int .i64 (n1 + 1))).setCell ⟨w.heap.size + 1 + 1, 4, none⟩ (.int .i64 (c0 - x))).setCell ⟨w.heap.size + 1 + 1, 5, none⟩ (.int .i64 (c1 + x)))).drew = U at *
  go_wp2_with fail
  obtain ⟨u0, u1, u2, u3, u4, u5⟩ := s_cells RF.out.2.2
  refine bodyPost_ret (v := .tuple #[.pointer (some ⟨b, 0, none⟩), sV (mc) (mb) (n0 - 1) (n1 + 1) (c0 - x) (c1 + x), .bool true]) (by simp [sV, results, u0, u1, u2, u3, u4, u5, Try.results13, go_sem]) rfl ⟨rfl, RF.out.1, RF.out.2.1⟩
set_option maxRecDepth 100000 in
set_option maxHeartbeats 2000000 in
theorem st_move_none1 (b : Nat) (mc mb n0 c0 n1 c1 : Int) (hs : (S.mk mc mb n0 c0 n1 c1).ok) (x y : Int) (hx0 : 0 ≤ x) (hx1 : x ≤ 1099511627776) (hz : n1 = 0 → c1 = 0) (hfit : n0 + 1 ≤ 2097152 ∧ c0 + x ≤ 2305843009213693952) (hh : hasB n1 c1 x = false) (w : World) (hb : Bud w b ⟨mc, mb, n0, c0, n1, c1⟩) :
    Calls Try.prog 13 #[.pointer (some ⟨b, 0, none⟩), sV mc mb n0 n1 c0 c1, .agg #[.int .i64 2, .int .i64 1, .int .i64 x, .int .i64 y]] w (SR b (mc) (mb) (n0) (c0) (n1) (c1) w) := by
  have HO := Lib.hid (fun (v : World) (hv : Bud v b ⟨mc, mb, n0, c0, n1, c1⟩) => Move_none1 b mc mb n0 c0 n1 c1 hs x hx0 hx1 hfit hh v hv)
  have HF := Lib.hid (fun v => lfair_any 1 x v)
  have hHF : fairI 1 x = true := by unfold fairI; simp; omega
  rw [hHF] at HF
  have HTH := Lib.hid (lthere1 mc mb n0 n1 c0 c1 x)
  rw [thB_has (by have := hs; obtain ⟨-, -, -, -, q1, -, -, -, q2, -, -, -⟩ := this; exact q2) hz hx0, hh] at HTH
  have X0 := Lib.hid (Sb.start hb mc mb n0 n1 c0 c1 2 1 x y)
  have hlt := BoxA.lt hb
  obtain ⟨o1, o2, o3, o4, o5, o6, o7, o8, o9, o10, o11, o12⟩ := hs
  simp only at o1 o2 o3 o4 o5 o6 o7 o8 o9 o10 o11 o12
  have hw1 : IntKind.i64.wrap (n1 - 1) = n1 - 1 := IntWalk.i64_in _ (by omega)
  have hw2 : IntKind.i64.wrap (c1 - x) = c1 - x := IntWalk.i64_in _ (by omega)
  have hw3 : IntKind.i64.wrap (n0 + 1) = n0 + 1 := IntWalk.i64_in _ (by omega)
  have hw4 : IntKind.i64.wrap (c0 + x) = c0 + x := IntWalk.i64_in _ (by omega)
  clear hb o1 o2 o3 o4 o5 o6 o7 o8 o9 o10 o11 o12 hHF hh hz hfit
  unfold SR sV
  unfold sO aO at X0
  go_enter Try.func13, Try.ntmps13
  go_wp2_with fail
  refine (HO.out _ X0.out.bud).mono ?_
  rintro e w1 ⟨rfl, k1⟩
  have X1 := Lib.hid (X0.out.grow k1)
  clear k1 X0
  obtain ⟨⟨s0, s1, s2, s3, s4, s5⟩, sf⟩ := X1.out.cs
  obtain ⟨a0, a1, a2, a3⟩ := X1.out.ca
  obtain ⟨⟨z0, z1, z2, z3, z4, z5⟩, zf⟩ := X1.out.cz
  have hsz := (Array.getElem?_eq_some_iff.1 X1.out.z).1
  go_wp2_with fail
  refine (HF.out _).mono ?_
  rintro e wx ⟨rfl, rfl⟩
  go_wp2_with fail
  refine (HTH.out _).mono ?_
  rintro e w2 ⟨rfl, k2⟩
  have X2 := Lib.hid (X1.out.grow k2)
  clear k2 X1 s0 s1 s2 s3 s4 s5 sf a0 a1 a2 a3 z0 z1 z2 z3 z4 z5 zf hsz
  obtain ⟨⟨s0, s1, s2, s3, s4, s5⟩, sf⟩ := X2.out.cs
  obtain ⟨a0, a1, a2, a3⟩ := X2.out.ca
  obtain ⟨⟨z0, z1, z2, z3, z4, z5⟩, zf⟩ := X2.out.cz
  have hsz := (Array.getElem?_eq_some_iff.1 X2.out.z).1
  clear s0 s1 s2 s3 s4 s5 sf a0 a1 a2 a3 z0 z1 z2 z3 z4 z5 zf hsz
  obtain ⟨⟨s0, s1, s2, s3, s4, s5⟩, sf⟩ := X2.out.cs
  obtain ⟨⟨z0, z1, z2, z3, z4, z5⟩, zf⟩ := X2.out.cz
  have hsz := (Array.getElem?_eq_some_iff.1 X2.out.z).1
  go_wp2_with fail
  apply region_once
  case first =>
    go_region_with fail
    all_goals exact ⟨rfl, rfl⟩
  have RF := Lib.hid (X2.out.find (mc) (mb) (n0) (n1) (c0) (c1))
  unfold put6 at RF
  generalize (((((((w2.setCell ⟨w.heap.size + 1 + 1, 0, none⟩ (.int .i64 (mc))).setCell ⟨w.heap.size + 1 + 1, 1, none⟩ (.int .i64 (mb))).setCell ⟨w.heap.size + 1 + 1, 2, none⟩ (.int .i64 (n0))).setCell ⟨w.heap.size + 1 + 1, 3, none⟩ (.int .i64 (n1))).setCell ⟨w.heap.size + 1 + 1, 4, none⟩ (.int .i64 (c0))).setCell ⟨w.heap.size + 1 + 1, 5, none⟩ (.int .i64 (c1)))).drew = U at *
  go_wp2_with fail
  obtain ⟨u0, u1, u2, u3, u4, u5⟩ := s_cells RF.out.2.2
  refine bodyPost_ret (v := .tuple #[.pointer (some ⟨b, 0, none⟩), sV (mc) (mb) (n0) (n1) (c0) (c1), .bool true]) (by simp [sV, results, u0, u1, u2, u3, u4, u5, Try.results13, go_sem]) rfl ⟨rfl, RF.out.1, RF.out.2.1⟩
set_option maxRecDepth 100000 in
set_option maxHeartbeats 2000000 in
theorem st_move_ok1 (b : Nat) (mc mb n0 c0 n1 c1 : Int) (hs : (S.mk mc mb n0 c0 n1 c1).ok) (x y : Int) (hx0 : 0 ≤ x) (hx1 : x ≤ 1099511627776) (hz : n1 = 0 → c1 = 0) (hfit : n0 + 1 ≤ 2097152 ∧ c0 + x ≤ 2305843009213693952) (hh : hasB n1 c1 x = true) (w : World) (hb : Bud w b ⟨mc, mb, n0, c0, n1, c1⟩) :
    Calls Try.prog 13 #[.pointer (some ⟨b, 0, none⟩), sV mc mb n0 n1 c0 c1, .agg #[.int .i64 2, .int .i64 1, .int .i64 x, .int .i64 y]] w (SR b (mc) (mb) (n0 + 1) (c0 + x) (n1 - 1) (c1 - x) w) := by
  have HO := Lib.hid (fun (v : World) (hv : Bud v b ⟨mc, mb, n0, c0, n1, c1⟩) => Move_ok1 b mc mb n0 c0 n1 c1 hs x hx0 hx1 hfit hh v hv)
  have HF := Lib.hid (fun v => lfair_any 1 x v)
  have hHF : fairI 1 x = true := by unfold fairI; simp; omega
  rw [hHF] at HF
  have HTH := Lib.hid (lthere1 mc mb n0 n1 c0 c1 x)
  rw [thB_has (by have := hs; obtain ⟨-, -, -, -, q1, -, -, -, q2, -, -, -⟩ := this; exact q2) hz hx0, hh] at HTH
  have X0 := Lib.hid (Sb.start hb mc mb n0 n1 c0 c1 2 1 x y)
  have hlt := BoxA.lt hb
  obtain ⟨o1, o2, o3, o4, o5, o6, o7, o8, o9, o10, o11, o12⟩ := hs
  simp only at o1 o2 o3 o4 o5 o6 o7 o8 o9 o10 o11 o12
  have hw1 : IntKind.i64.wrap (n1 - 1) = n1 - 1 := IntWalk.i64_in _ (by omega)
  have hw2 : IntKind.i64.wrap (c1 - x) = c1 - x := IntWalk.i64_in _ (by omega)
  have hw3 : IntKind.i64.wrap (n0 + 1) = n0 + 1 := IntWalk.i64_in _ (by omega)
  have hw4 : IntKind.i64.wrap (c0 + x) = c0 + x := IntWalk.i64_in _ (by omega)
  clear hb o1 o2 o3 o4 o5 o6 o7 o8 o9 o10 o11 o12 hHF hh hz hfit
  unfold SR sV
  unfold sO aO at X0
  go_enter Try.func13, Try.ntmps13
  go_wp2_with fail
  refine (HO.out _ X0.out.bud).mono ?_
  rintro e w1 ⟨rfl, h1, k1⟩
  have X1 := Lib.hid (X0.out.op h1 k1)
  clear h1 k1 X0
  obtain ⟨⟨s0, s1, s2, s3, s4, s5⟩, sf⟩ := X1.out.cs
  obtain ⟨a0, a1, a2, a3⟩ := X1.out.ca
  obtain ⟨⟨z0, z1, z2, z3, z4, z5⟩, zf⟩ := X1.out.cz
  have hsz := (Array.getElem?_eq_some_iff.1 X1.out.z).1
  go_wp2_with fail
  refine (HF.out _).mono ?_
  rintro e wx ⟨rfl, rfl⟩
  go_wp2_with fail
  refine (HTH.out _).mono ?_
  rintro e w2 ⟨rfl, k2⟩
  have X2 := Lib.hid (X1.out.grow k2)
  clear k2 X1 s0 s1 s2 s3 s4 s5 sf a0 a1 a2 a3 z0 z1 z2 z3 z4 z5 zf hsz
  obtain ⟨⟨s0, s1, s2, s3, s4, s5⟩, sf⟩ := X2.out.cs
  obtain ⟨a0, a1, a2, a3⟩ := X2.out.ca
  obtain ⟨⟨z0, z1, z2, z3, z4, z5⟩, zf⟩ := X2.out.cz
  have hsz := (Array.getElem?_eq_some_iff.1 X2.out.z).1
  go_wp2_with fail
  apply region_once
  case first =>
    go_region_with fail
    all_goals exact ⟨rfl, rfl⟩
  have X3 := Lib.hid ((X2.out.set1 (n1 - 1) (c1 - x)).grow ((Below.refl _ _).drew))
  clear s0 s1 s2 s3 s4 s5 sf a0 a1 a2 a3 z0 z1 z2 z3 z4 z5 zf hsz X2
  generalize ((w2.setCell ⟨w.heap.size, 3, none⟩ (.int .i64 (n1 - 1))).setCell ⟨w.heap.size, 5, none⟩ (.int .i64 (c1 - x))).drew = V at *
  obtain ⟨⟨s0, s1, s2, s3, s4, s5⟩, sf⟩ := X3.out.cs
  obtain ⟨a0, a1, a2, a3⟩ := X3.out.ca
  obtain ⟨⟨z0, z1, z2, z3, z4, z5⟩, zf⟩ := X3.out.cz
  have hsz := (Array.getElem?_eq_some_iff.1 X3.out.z).1
  go_wp2_with fail
  apply region_once
  case first =>
    go_region_with fail
    all_goals exact ⟨rfl, rfl⟩
  have X4 := Lib.hid ((X3.out.set0 (n0 + 1) (c0 + x)).grow ((Below.refl _ _).drew))
  clear s0 s1 s2 s3 s4 s5 sf a0 a1 a2 a3 z0 z1 z2 z3 z4 z5 zf hsz X3
  generalize ((V.setCell ⟨w.heap.size, 2, none⟩ (.int .i64 (n0 + 1))).setCell ⟨w.heap.size, 4, none⟩ (.int .i64 (c0 + x))).drew = V2 at *
  obtain ⟨⟨s0, s1, s2, s3, s4, s5⟩, sf⟩ := X4.out.cs
  obtain ⟨⟨z0, z1, z2, z3, z4, z5⟩, zf⟩ := X4.out.cz
  have hsz := (Array.getElem?_eq_some_iff.1 X4.out.z).1
  go_wp2_with fail
  apply region_once
  case first =>
    go_region_with fail
    all_goals exact ⟨rfl, rfl⟩
  have RF := Lib.hid (X4.out.find (mc) (mb) (n0 + 1) (n1 - 1) (c0 + x) (c1 - x))
  unfold put6 at RF
  generalize (((((((V2.setCell ⟨w.heap.size + 1 + 1, 0, none⟩ (.int .i64 (mc))).setCell ⟨w.heap.size + 1 + 1, 1, none⟩ (.int .i64 (mb))).setCell ⟨w.heap.size + 1 + 1, 2, none⟩ (.int .i64 (n0 + 1))).setCell ⟨w.heap.size + 1 + 1, 3, none⟩ (.int .i64 (n1 - 1))).setCell ⟨w.heap.size + 1 + 1, 4, none⟩ (.int .i64 (c0 + x))).setCell ⟨w.heap.size + 1 + 1, 5, none⟩ (.int .i64 (c1 - x)))).drew = U at *
  go_wp2_with fail
  obtain ⟨u0, u1, u2, u3, u4, u5⟩ := s_cells RF.out.2.2
  refine bodyPost_ret (v := .tuple #[.pointer (some ⟨b, 0, none⟩), sV (mc) (mb) (n0 + 1) (n1 - 1) (c0 + x) (c1 - x), .bool true]) (by simp [sV, results, u0, u1, u2, u3, u4, u5, Try.results13, go_sem]) rfl ⟨rfl, RF.out.1, RF.out.2.1⟩
end Go.Proofs.Ytjlfjgmkbjfbcaa.Bud
