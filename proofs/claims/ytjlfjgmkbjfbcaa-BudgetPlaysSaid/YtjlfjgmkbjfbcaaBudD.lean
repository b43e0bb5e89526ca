/-
  The law's steps of layer 17 (budget), case by case.
-/
import Derived.Test.YtjlfjgmkbjfbcaaBudJ
import Derived.Test.YtjlfjgmkbjfbcaaBudP
set_option linter.unusedVariables false
set_option linter.unusedSimpArgs false
namespace Go.Proofs.Ytjlfjgmkbjfbcaa.Bud
open Go.RowKit Kit
set_option maxRecDepth 100000 in
set_option maxHeartbeats 2000000 in
theorem changeb_bad (b : Nat) (mc mb n0 c0 n1 c1 : Int) (hs : (S.mk mc mb n0 c0 n1 c1).ok) (g x y : Int) (hf : fairI g x = false) (w : World) (hb : Bud w b ⟨mc, mb, n0, c0, n1, c1⟩) :
    Calls Try.prog 13 #[.pointer (some ⟨b, 0, none⟩), sV mc mb n0 n1 c0 c1, .agg #[.int .i64 3, .int .i64 g, .int .i64 x, .int .i64 y]] w (SR b (mc) (mb) (n0) (c0) (n1) (c1) w) := by
  have HO := Lib.hid (fun (v : World) (hv : Bud v b ⟨mc, mb, n0, c0, n1, c1⟩) => Change_bad b ⟨mc, mb, n0, c0, n1, c1⟩ hs g x y (.inl hf) v hv)
  have HF := Lib.hid (fun v => lfair_any g x v)
  rw [hf] at HF
  have X0 := Lib.hid (Sb.start hb mc mb n0 n1 c0 c1 3 g x y)
  have hlt := BoxA.lt hb
  obtain ⟨o1, o2, o3, o4, o5, o6, o7, o8, o9, o10, o11, o12⟩ := hs
  simp only at o1 o2 o3 o4 o5 o6 o7 o8 o9 o10 o11 o12
  clear hb o1 o2 o3 o4 o5 o6 o7 o8 o9 o10 o11 o12 hf
  unfold SR sV
  unfold sO aO at X0
  go_enter Try.func13, Try.ntmps13
  go_wp2_with fail
  refine (HO.out _ X0.out.bud).mono ?_
  rintro e w1 ⟨rfl, hw⟩
  have X1 := Lib.hid (hw ▸ X0.out)
  clear hw X0
  obtain ⟨⟨s0, s1, s2, s3, s4, s5⟩, sf⟩ := X1.out.cs
  obtain ⟨a0, a1, a2, a3⟩ := X1.out.ca
  obtain ⟨⟨z0, z1, z2, z3, z4, z5⟩, zf⟩ := X1.out.cz
  have hsz := (Array.getElem?_eq_some_iff.1 X1.out.z).1
  go_wp2_with fail
  refine (HF.out _).mono ?_
  rintro e wx ⟨rfl, rfl⟩
  clear s0 s1 s2 s3 s4 s5 sf a0 a1 a2 a3 z0 z1 z2 z3 z4 z5 zf hsz
  obtain ⟨⟨s0, s1, s2, s3, s4, s5⟩, sf⟩ := X1.out.cs
  obtain ⟨⟨z0, z1, z2, z3, z4, z5⟩, zf⟩ := X1.out.cz
  have hsz := (Array.getElem?_eq_some_iff.1 X1.out.z).1
  go_wp2_with fail
  apply region_once
  case first =>
    go_region_with fail
    all_goals exact ⟨rfl, rfl⟩
  have RF := Lib.hid (X1.out.find (mc) (mb) (n0) (n1) (c0) (c1))
  unfold put6 at RF
  generalize (((((((w1.setCell ⟨w.heap.size + 1 + 1, 0, none⟩ (.int .i64 (mc))).setCell ⟨w.heap.size + 1 + 1, 1, none⟩ (.int .i64 (mb))).setCell ⟨w.heap.size + 1 + 1, 2, none⟩ (.int .i64 (n0))).setCell ⟨w.heap.size + 1 + 1, 3, none⟩ (.int .i64 (n1))).setCell ⟨w.heap.size + 1 + 1, 4, none⟩ (.int .i64 (c0))).setCell ⟨w.heap.size + 1 + 1, 5, none⟩ (.int .i64 (c1)))).drew = U at *
  go_wp2_with fail
  obtain ⟨u0, u1, u2, u3, u4, u5⟩ := s_cells RF.out.2.2
  refine bodyPost_ret (v := .tuple #[.pointer (some ⟨b, 0, none⟩), sV (mc) (mb) (n0) (n1) (c0) (c1), .bool true]) (by simp [sV, results, u0, u1, u2, u3, u4, u5, Try.results13, go_sem]) rfl ⟨rfl, RF.out.1, RF.out.2.1⟩
set_option maxRecDepth 100000 in
set_option maxHeartbeats 2000000 in
theorem changeb2_bad (b : Nat) (mc mb n0 c0 n1 c1 : Int) (hs : (S.mk mc mb n0 c0 n1 c1).ok) (g x y : Int) (hf : fairI g x = true) (hf2 : fairI g y = false) (w : World) (hb : Bud w b ⟨mc, mb, n0, c0, n1, c1⟩) :
    Calls Try.prog 13 #[.pointer (some ⟨b, 0, none⟩), sV mc mb n0 n1 c0 c1, .agg #[.int .i64 3, .int .i64 g, .int .i64 x, .int .i64 y]] w (SR b (mc) (mb) (n0) (c0) (n1) (c1) w) := by
  have HO := Lib.hid (fun (v : World) (hv : Bud v b ⟨mc, mb, n0, c0, n1, c1⟩) => Change_bad b ⟨mc, mb, n0, c0, n1, c1⟩ hs g x y (.inr hf2) v hv)
  have HF := Lib.hid (fun v => lfair_any g x v)
  rw [hf] at HF
  have HF2 := Lib.hid (fun v => lfair_any g y v)
  rw [hf2] at HF2
  have X0 := Lib.hid (Sb.start hb mc mb n0 n1 c0 c1 3 g x y)
  have hlt := BoxA.lt hb
  obtain ⟨o1, o2, o3, o4, o5, o6, o7, o8, o9, o10, o11, o12⟩ := hs
  simp only at o1 o2 o3 o4 o5 o6 o7 o8 o9 o10 o11 o12
  clear hb o1 o2 o3 o4 o5 o6 o7 o8 o9 o10 o11 o12 hf hf2
  unfold SR sV
  unfold sO aO at X0
  go_enter Try.func13, Try.ntmps13
  go_wp2_with fail
  refine (HO.out _ X0.out.bud).mono ?_
  rintro e w1 ⟨rfl, hw⟩
  have X1 := Lib.hid (hw ▸ X0.out)
  clear hw X0
  obtain ⟨⟨s0, s1, s2, s3, s4, s5⟩, sf⟩ := X1.out.cs
  obtain ⟨a0, a1, a2, a3⟩ := X1.out.ca
  obtain ⟨⟨z0, z1, z2, z3, z4, z5⟩, zf⟩ := X1.out.cz
  have hsz := (Array.getElem?_eq_some_iff.1 X1.out.z).1
  go_wp2_with fail
  refine (HF.out _).mono ?_
  rintro e wx ⟨rfl, rfl⟩
  go_wp2_with fail
  refine (HF2.out _).mono ?_
  rintro e wx ⟨rfl, rfl⟩
  clear s0 s1 s2 s3 s4 s5 sf a0 a1 a2 a3 z0 z1 z2 z3 z4 z5 zf hsz
  obtain ⟨⟨s0, s1, s2, s3, s4, s5⟩, sf⟩ := X1.out.cs
  obtain ⟨⟨z0, z1, z2, z3, z4, z5⟩, zf⟩ := X1.out.cz
  have hsz := (Array.getElem?_eq_some_iff.1 X1.out.z).1
  go_wp2_with fail
  apply region_once
  case first =>
    go_region_with fail
    all_goals exact ⟨rfl, rfl⟩
  have RF := Lib.hid (X1.out.find (mc) (mb) (n0) (n1) (c0) (c1))
  unfold put6 at RF
  generalize (((((((w1.setCell ⟨w.heap.size + 1 + 1, 0, none⟩ (.int .i64 (mc))).setCell ⟨w.heap.size + 1 + 1, 1, none⟩ (.int .i64 (mb))).setCell ⟨w.heap.size + 1 + 1, 2, none⟩ (.int .i64 (n0))).setCell ⟨w.heap.size + 1 + 1, 3, none⟩ (.int .i64 (n1))).setCell ⟨w.heap.size + 1 + 1, 4, none⟩ (.int .i64 (c0))).setCell ⟨w.heap.size + 1 + 1, 5, none⟩ (.int .i64 (c1)))).drew = U at *
  go_wp2_with fail
  obtain ⟨u0, u1, u2, u3, u4, u5⟩ := s_cells RF.out.2.2
  refine bodyPost_ret (v := .tuple #[.pointer (some ⟨b, 0, none⟩), sV (mc) (mb) (n0) (n1) (c0) (c1), .bool true]) (by simp [sV, results, u0, u1, u2, u3, u4, u5, Try.results13, go_sem]) rfl ⟨rfl, RF.out.1, RF.out.2.1⟩
set_option maxRecDepth 100000 in
set_option maxHeartbeats 2000000 in
theorem st_change_none0 (b : Nat) (mc mb n0 c0 n1 c1 : Int) (hs : (S.mk mc mb n0 c0 n1 c1).ok) (x y : Int) (hx0 : 0 ≤ x) (hx1 : x ≤ 1099511627776) (hy0 : 0 ≤ y) (hy1 : y ≤ 1099511627776) (hz : n0 = 0 → c0 = 0) (hfit : n0 ≤ 2097152 ∧ c0 + (y - x) ≤ 2305843009213693952) (hh : hasB n0 c0 x = false) (w : World) (hb : Bud w b ⟨mc, mb, n0, c0, n1, c1⟩) :
    Calls Try.prog 13 #[.pointer (some ⟨b, 0, none⟩), sV mc mb n0 n1 c0 c1, .agg #[.int .i64 3, .int .i64 0, .int .i64 x, .int .i64 y]] w (SR b (mc) (mb) (n0) (c0) (n1) (c1) w) := by
  have hce : c0 + (y - x) = c0 - x + y := by omega
  have HO := Lib.hid (fun (v : World) (hv : Bud v b ⟨mc, mb, n0, c0, n1, c1⟩) => Change_none0 b mc mb n0 c0 n1 c1 hs x hx0 hx1 y hy0 hy1 hfit hh v hv)
  clear hce
  have HF := Lib.hid (fun v => lfair_any 0 x v)
  have hHF : fairI 0 x = true := by unfold fairI; simp; omega
  rw [hHF] at HF
  have HG := Lib.hid (fun v => lfair_any 0 y v)
  have hHG : fairI 0 y = true := by unfold fairI; simp; omega
  rw [hHG] at HG
  have HTH := Lib.hid (lthere0 mc mb n0 n1 c0 c1 x)
  rw [thB_has (by have := hs; obtain ⟨-, -, -, -, q1, -, -, -, q2, -, -, -⟩ := this; exact q1) hz hx0, hh] at HTH
  have X0 := Lib.hid (Sb.start hb mc mb n0 n1 c0 c1 3 0 x y)
  have hlt := BoxA.lt hb
  obtain ⟨o1, o2, o3, o4, o5, o6, o7, o8, o9, o10, o11, o12⟩ := hs
  simp only at o1 o2 o3 o4 o5 o6 o7 o8 o9 o10 o11 o12
  have hw1 : IntKind.i64.wrap (c0 - x) = c0 - x := IntWalk.i64_in _ (by omega)
  have hw2 : IntKind.i64.wrap (c0 - x + y) = c0 - x + y := IntWalk.i64_in _ (by omega)
  clear hb o1 o2 o3 o4 o5 o6 o7 o8 o9 o10 o11 o12 hHF hHG hh hz hfit
  unfold SR sV
  unfold sO aO at X0
  go_enter Try.func13, Try.ntmps13
  go_wp2_with fail
  refine (HO.out _ X0.out.bud).mono ?_
  rintro e w1 ⟨rfl, k1⟩
  have X1 := Lib.hid (X0.out.grow k1)
  clear k1 X0
  obtain ⟨⟨s0, s1, s2, s3, s4, s5⟩, sf⟩ := X1.out.cs
  obtain ⟨a0, a1, a2, a3⟩ := X1.out.ca
  obtain ⟨⟨z0, z1, z2, z3, z4, z5⟩, zf⟩ := X1.out.cz
  have hsz := (Array.getElem?_eq_some_iff.1 X1.out.z).1
  go_wp2_with fail
  refine (HF.out _).mono ?_
  rintro e wx ⟨rfl, rfl⟩
  go_wp2_with fail
  refine (HG.out _).mono ?_
  rintro e wx ⟨rfl, rfl⟩
  go_wp2_with fail
  refine (HTH.out _).mono ?_
  rintro e w2 ⟨rfl, k2⟩
  have X2 := Lib.hid (X1.out.grow k2)
  clear k2 X1 s0 s1 s2 s3 s4 s5 sf a0 a1 a2 a3 z0 z1 z2 z3 z4 z5 zf hsz
  obtain ⟨⟨s0, s1, s2, s3, s4, s5⟩, sf⟩ := X2.out.cs
  obtain ⟨a0, a1, a2, a3⟩ := X2.out.ca
  obtain ⟨⟨z0, z1, z2, z3, z4, z5⟩, zf⟩ := X2.out.cz
  have hsz := (Array.getElem?_eq_some_iff.1 X2.out.z).1
  clear s0 s1 s2 s3 s4 s5 sf a0 a1 a2 a3 z0 z1 z2 z3 z4 z5 zf hsz
  obtain ⟨⟨s0, s1, s2, s3, s4, s5⟩, sf⟩ := X2.out.cs
  obtain ⟨⟨z0, z1, z2, z3, z4, z5⟩, zf⟩ := X2.out.cz
  have hsz := (Array.getElem?_eq_some_iff.1 X2.out.z).1
  go_wp2_with fail
  apply region_once
  case first =>
    go_region_with fail
    all_goals exact ⟨rfl, rfl⟩
  have RF := Lib.hid (X2.out.find (mc) (mb) (n0) (n1) (c0) (c1))
  unfold put6 at RF
  generalize (((((((w2.setCell ⟨w.heap.size + 1 + 1, 0, none⟩ (.int .i64 (mc))).setCell ⟨w.heap.size + 1 + 1, 1, none⟩ (.int .i64 (mb))).setCell ⟨w.heap.size + 1 + 1, 2, none⟩ (.int .i64 (n0))).setCell ⟨w.heap.size + 1 + 1, 3, none⟩ (.int .i64 (n1))).setCell ⟨w.heap.size + 1 + 1, 4, none⟩ (.int .i64 (c0))).setCell ⟨w.heap.size + 1 + 1, 5, none⟩ (.int .i64 (c1)))).drew = U at *
  go_wp2_with fail
  obtain ⟨u0, u1, u2, u3, u4, u5⟩ := s_cells RF.out.2.2
  refine bodyPost_ret (v := .tuple #[.pointer (some ⟨b, 0, none⟩), sV (mc) (mb) (n0) (n1) (c0) (c1), .bool true]) (by simp [sV, results, u0, u1, u2, u3, u4, u5, Try.results13, go_sem]) rfl ⟨rfl, RF.out.1, RF.out.2.1⟩
set_option maxRecDepth 100000 in
set_option maxHeartbeats 2000000 in
theorem st_change_ok0 (b : Nat) (mc mb n0 c0 n1 c1 : Int) (hs : (S.mk mc mb n0 c0 n1 c1).ok) (x y : Int) (hx0 : 0 ≤ x) (hx1 : x ≤ 1099511627776) (hy0 : 0 ≤ y) (hy1 : y ≤ 1099511627776) (hz : n0 = 0 → c0 = 0) (hfit : n0 ≤ 2097152 ∧ c0 + (y - x) ≤ 2305843009213693952) (hh : hasB n0 c0 x = true) (w : World) (hb : Bud w b ⟨mc, mb, n0, c0, n1, c1⟩) :
    Calls Try.prog 13 #[.pointer (some ⟨b, 0, none⟩), sV mc mb n0 n1 c0 c1, .agg #[.int .i64 3, .int .i64 0, .int .i64 x, .int .i64 y]] w (SR b (mc) (mb) (n0) (c0 - x + y) (n1) (c1) w) := by
  have hce : c0 + (y - x) = c0 - x + y := by omega
  have HO := Lib.hid (fun (v : World) (hv : Bud v b ⟨mc, mb, n0, c0, n1, c1⟩) => Change_ok0 b mc mb n0 c0 n1 c1 hs x hx0 hx1 y hy0 hy1 hfit hh v hv)
  rw [hce] at HO
  clear hce
  have HF := Lib.hid (fun v => lfair_any 0 x v)
  have hHF : fairI 0 x = true := by unfold fairI; simp; omega
  rw [hHF] at HF
  have HG := Lib.hid (fun v => lfair_any 0 y v)
  have hHG : fairI 0 y = true := by unfold fairI; simp; omega
  rw [hHG] at HG
  have HTH := Lib.hid (lthere0 mc mb n0 n1 c0 c1 x)
  rw [thB_has (by have := hs; obtain ⟨-, -, -, -, q1, -, -, -, q2, -, -, -⟩ := this; exact q1) hz hx0, hh] at HTH
  have X0 := Lib.hid (Sb.start hb mc mb n0 n1 c0 c1 3 0 x y)
  have hlt := BoxA.lt hb
  obtain ⟨o1, o2, o3, o4, o5, o6, o7, o8, o9, o10, o11, o12⟩ := hs
  simp only at o1 o2 o3 o4 o5 o6 o7 o8 o9 o10 o11 o12
  have hw1 : IntKind.i64.wrap (c0 - x) = c0 - x := IntWalk.i64_in _ (by omega)
  have hw2 : IntKind.i64.wrap (c0 - x + y) = c0 - x + y := IntWalk.i64_in _ (by omega)
  clear hb o1 o2 o3 o4 o5 o6 o7 o8 o9 o10 o11 o12 hHF hHG hh hz hfit
  unfold SR sV
  unfold sO aO at X0
  go_enter Try.func13, Try.ntmps13
  go_wp2_with fail
  refine (HO.out _ X0.out.bud).mono ?_
  rintro e w1 ⟨rfl, h1, k1⟩
  have X1 := Lib.hid (X0.out.op h1 k1)
  clear h1 k1 X0
  obtain ⟨⟨s0, s1, s2, s3, s4, s5⟩, sf⟩ := X1.out.cs
  obtain ⟨a0, a1, a2, a3⟩ := X1.out.ca
  obtain ⟨⟨z0, z1, z2, z3, z4, z5⟩, zf⟩ := X1.out.cz
  have hsz := (Array.getElem?_eq_some_iff.1 X1.out.z).1
  go_wp2_with fail
  refine (HF.out _).mono ?_
  rintro e wx ⟨rfl, rfl⟩
  go_wp2_with fail
  refine (HG.out _).mono ?_
  rintro e wx ⟨rfl, rfl⟩
  go_wp2_with fail
  refine (HTH.out _).mono ?_
  rintro e w2 ⟨rfl, k2⟩
  have X2 := Lib.hid (X1.out.grow k2)
  clear k2 X1 s0 s1 s2 s3 s4 s5 sf a0 a1 a2 a3 z0 z1 z2 z3 z4 z5 zf hsz
  obtain ⟨⟨s0, s1, s2, s3, s4, s5⟩, sf⟩ := X2.out.cs
  obtain ⟨a0, a1, a2, a3⟩ := X2.out.ca
  obtain ⟨⟨z0, z1, z2, z3, z4, z5⟩, zf⟩ := X2.out.cz
  have hsz := (Array.getElem?_eq_some_iff.1 X2.out.z).1
  go_wp2_with fail
  apply region_once
  case first =>
    go_region_with fail
    all_goals exact ⟨rfl, rfl⟩
  have X3 := Lib.hid ((X2.out.setc0 (c0 - x + y)).grow ((Below.refl _ _).drew))
  clear s0 s1 s2 s3 s4 s5 sf a0 a1 a2 a3 z0 z1 z2 z3 z4 z5 zf hsz X2
  generalize (w2.setCell ⟨w.heap.size, 4, none⟩ (.int .i64 (c0 - x + y))).drew = V at *
  obtain ⟨⟨s0, s1, s2, s3, s4, s5⟩, sf⟩ := X3.out.cs
  obtain ⟨⟨z0, z1, z2, z3, z4, z5⟩, zf⟩ := X3.out.cz
  have hsz := (Array.getElem?_eq_some_iff.1 X3.out.z).1
  go_wp2_with fail
  apply region_once
  case first =>
    go_region_with fail
    all_goals exact ⟨rfl, rfl⟩
  have RF := Lib.hid (X3.out.find (mc) (mb) (n0) (n1) (c0 - x + y) (c1))
  unfold put6 at RF
  generalize (((((((V.setCell ⟨w.heap.size + 1 + 1, 0, none⟩ (.int .i64 (mc))).setCell ⟨w.heap.size + 1 + 1, 1, none⟩ (.int .i64 (mb))).setCell ⟨w.heap.size + 1 + 1, 2, none⟩ (.int .i64 (n0))).setCell ⟨w.heap.size + 1 + 1, 3, none⟩ (.int .i64 (n1))).setCell ⟨w.heap.size + 1 + 1, 4, none⟩ (.int .i64 (c0 - x + y))).setCell ⟨w.heap.size + 1 + 1, 5, none⟩ (.int .i64 (c1)))).drew = U at *
  go_wp2_with fail
  obtain ⟨u0, u1, u2, u3, u4, u5⟩ := s_cells RF.out.2.2
  refine bodyPost_ret (v := .tuple #[.pointer (some ⟨b, 0, none⟩), sV (mc) (mb) (n0) (n1) (c0 - x + y) (c1), .bool true]) (by simp [sV, results, u0, u1, u2, u3, u4, u5, Try.results13, go_sem]) rfl ⟨rfl, RF.out.1, RF.out.2.1⟩
set_option maxRecDepth 100000 in
set_option maxHeartbeats 2000000 in
theorem st_change_none1 (b : Nat) (mc mb n0 c0 n1 c1 : Int) (hs : (S.mk mc mb n0 c0 n1 c1).ok) (x y : Int) (hx0 : 0 ≤ x) (hx1 : x ≤ 1099511627776) (hy0 : 0 ≤ y) (hy1 : y ≤ 1099511627776) (hz : n1 = 0 → c1 = 0) (hfit : n1 ≤ 2097152 ∧ c1 + (y - x) ≤ 2305843009213693952) (hh : hasB n1 c1 x = false) (w : World) (hb : Bud w b ⟨mc, mb, n0, c0, n1, c1⟩) :
    Calls Try.prog 13 #[.pointer (some ⟨b, 0, none⟩), sV mc mb n0 n1 c0 c1, .agg #[.int .i64 3, .int .i64 1, .int .i64 x, .int .i64 y]] w (SR b (mc) (mb) (n0) (c0) (n1) (c1) w) := by
  have hce : c1 + (y - x) = c1 - x + y := by omega
  have HO := Lib.hid (fun (v : World) (hv : Bud v b ⟨mc, mb, n0, c0, n1, c1⟩) => Change_none1 b mc mb n0 c0 n1 c1 hs x hx0 hx1 y hy0 hy1 hfit hh v hv)
  clear hce
  have HF := Lib.hid (fun v => lfair_any 1 x v)
  have hHF : fairI 1 x = true := by unfold fairI; simp; omega
  rw [hHF] at HF
  have HG := Lib.hid (fun v => lfair_any 1 y v)
  have hHG : fairI 1 y = true := by unfold fairI; simp; omega
  rw [hHG] at HG
  have HTH := Lib.hid (lthere1 mc mb n0 n1 c0 c1 x)
  rw [thB_has (by have := hs; obtain ⟨-, -, -, -, q1, -, -, -, q2, -, -, -⟩ := this; exact q2) hz hx0, hh] at HTH
  have X0 := Lib.hid (Sb.start hb mc mb n0 n1 c0 c1 3 1 x y)
  have hlt := BoxA.lt hb
  obtain ⟨o1, o2, o3, o4, o5, o6, o7, o8, o9, o10, o11, o12⟩ := hs
  simp only at o1 o2 o3 o4 o5 o6 o7 o8 o9 o10 o11 o12
  have hw1 : IntKind.i64.wrap (c1 - x) = c1 - x := IntWalk.i64_in _ (by omega)
  have hw2 : IntKind.i64.wrap (c1 - x + y) = c1 - x + y := IntWalk.i64_in _ (by omega)
  clear hb o1 o2 o3 o4 o5 o6 o7 o8 o9 o10 o11 o12 hHF hHG hh hz hfit
  unfold SR sV
  unfold sO aO at X0
  go_enter Try.func13, Try.ntmps13
  go_wp2_with fail
  refine (HO.out _ X0.out.bud).mono ?_
  rintro e w1 ⟨rfl, k1⟩
  have X1 := Lib.hid (X0.out.grow k1)
  clear k1 X0
  obtain ⟨⟨s0, s1, s2, s3, s4, s5⟩, sf⟩ := X1.out.cs
  obtain ⟨a0, a1, a2, a3⟩ := X1.out.ca
  obtain ⟨⟨z0, z1, z2, z3, z4, z5⟩, zf⟩ := X1.out.cz
  have hsz := (Array.getElem?_eq_some_iff.1 X1.out.z).1
  go_wp2_with fail
  refine (HF.out _).mono ?_
  rintro e wx ⟨rfl, rfl⟩
  go_wp2_with fail
  refine (HG.out _).mono ?_
  rintro e wx ⟨rfl, rfl⟩
  go_wp2_with fail
  refine (HTH.out _).mono ?_
  rintro e w2 ⟨rfl, k2⟩
  have X2 := Lib.hid (X1.out.grow k2)
  clear k2 X1 s0 s1 s2 s3 s4 s5 sf a0 a1 a2 a3 z0 z1 z2 z3 z4 z5 zf hsz
  obtain ⟨⟨s0, s1, s2, s3, s4, s5⟩, sf⟩ := X2.out.cs
  obtain ⟨a0, a1, a2, a3⟩ := X2.out.ca
  obtain ⟨⟨z0, z1, z2, z3, z4, z5⟩, zf⟩ := X2.out.cz
  have hsz := (Array.getElem?_eq_some_iff.1 X2.out.z).1
  clear s0 s1 s2 s3 s4 s5 sf a0 a1 a2 a3 z0 z1 z2 z3 z4 z5 zf hsz
  obtain ⟨⟨s0, s1, s2, s3, s4, s5⟩, sf⟩ := X2.out.cs
  obtain ⟨⟨z0, z1, z2, z3, z4, z5⟩, zf⟩ := X2.out.cz
  have hsz := (Array.getElem?_eq_some_iff.1 X2.out.z).1
  go_wp2_with fail
  apply region_once
  case first =>
    go_region_with fail
    all_goals exact ⟨rfl, rfl⟩
  have RF := Lib.hid (X2.out.find (mc) (mb) (n0) (n1) (c0) (c1))
  unfold put6 at RF
  generalize (((((((w2.setCell ⟨w.heap.size + 1 + 1, 0, none⟩ (.int .i64 (mc))).setCell ⟨w.heap.size + 1 + 1, 1, none⟩ (.int .i64 (mb))).setCell ⟨w.heap.size + 1 + 1, 2, none⟩ (.int .i64 (n0))).setCell ⟨w.heap.size + 1 + 1, 3, none⟩ (.int .i64 (n1))).setCell ⟨w.heap.size + 1 + 1, 4, none⟩ (.int .i64 (c0))).setCell ⟨w.heap.size + 1 + 1, 5, none⟩ (.int .i64 (c1)))).drew = U at *
  go_wp2_with fail
  obtain ⟨u0, u1, u2, u3, u4, u5⟩ := s_cells RF.out.2.2
  refine bodyPost_ret (v := .tuple #[.pointer (some ⟨b, 0, none⟩), sV (mc) (mb) (n0) (n1) (c0) (c1), .bool true]) (by simp [sV, results, u0, u1, u2, u3, u4, u5, Try.results13, go_sem]) rfl ⟨rfl, RF.out.1, RF.out.2.1⟩
set_option maxRecDepth 100000 in
set_option maxHeartbeats 2000000 in
theorem st_change_ok1 (b : Nat) (mc mb n0 c0 n1 c1 : Int) (hs : (S.mk mc mb n0 c0 n1 c1).ok) (x y : Int) (hx0 : 0 ≤ x) (hx1 : x ≤ 1099511627776) (hy0 : 0 ≤ y) (hy1 : y ≤ 1099511627776) (hz : n1 = 0 → c1 = 0) (hfit : n1 ≤ 2097152 ∧ c1 + (y - x) ≤ 2305843009213693952) (hh : hasB n1 c1 x = true) (w : World) (hb : Bud w b ⟨mc, mb, n0, c0, n1, c1⟩) :
    Calls Try.prog 13 #[.pointer (some ⟨b, 0, none⟩), sV mc mb n0 n1 c0 c1, .agg #[.int .i64 3, .int .i64 1, .int .i64 x, .int .i64 y]] w (SR b (mc) (mb) (n0) (c0) (n1) (c1 - x + y) w) := by
  have hce : c1 + (y - x) = c1 - x + y := by omega
  have HO := Lib.hid (fun (v : World) (hv : Bud v b ⟨mc, mb, n0, c0, n1, c1⟩) => Change_ok1 b mc mb n0 c0 n1 c1 hs x hx0 hx1 y hy0 hy1 hfit hh v hv)
  rw [hce] at HO
  clear hce
  have HF := Lib.hid (fun v => lfair_any 1 x v)
  have hHF : fairI 1 x = true := by unfold fairI; simp; omega
  rw [hHF] at HF
  have HG := Lib.hid (fun v => lfair_any 1 y v)
  have hHG : fairI 1 y = true := by unfold fairI; simp; omega
  rw [hHG] at HG
  have HTH := Lib.hid (lthere1 mc mb n0 n1 c0 c1 x)
  rw [thB_has (by have := hs; obtain ⟨-, -, -, -, q1, -, -, -, q2, -, -, -⟩ := this; exact q2) hz hx0, hh] at HTH
  have X0 := Lib.hid (Sb.start hb mc mb n0 n1 c0 c1 3 1 x y)
  have hlt := BoxA.lt hb
  obtain ⟨o1, o2, o3, o4, o5, o6, o7, o8, o9, o10, o11, o12⟩ := hs
  simp only at o1 o2 o3 o4 o5 o6 o7 o8 o9 o10 o11 o12
  have hw1 : IntKind.i64.wrap (c1 - x) = c1 - x := IntWalk.i64_in _ (by omega)
  have hw2 : IntKind.i64.wrap (c1 - x + y) = c1 - x + y := IntWalk.i64_in _ (by omega)
  clear hb o1 o2 o3 o4 o5 o6 o7 o8 o9 o10 o11 o12 hHF hHG hh hz hfit
  unfold SR sV
  unfold sO aO at X0
  go_enter Try.func13, Try.ntmps13
  go_wp2_with fail
  refine (HO.out _ X0.out.bud).mono ?_
  rintro e w1 ⟨rfl, h1, k1⟩
  have X1 := Lib.hid (X0.out.op h1 k1)
  clear h1 k1 X0
  obtain ⟨⟨s0, s1, s2, s3, s4, s5⟩, sf⟩ := X1.out.cs
  obtain ⟨a0, a1, a2, a3⟩ := X1.out.ca
  obtain ⟨⟨z0, z1, z2, z3, z4, z5⟩, zf⟩ := X1.out.cz
  have hsz := (Array.getElem?_eq_some_iff.1 X1.out.z).1
  go_wp2_with fail
  refine (HF.out _).mono ?_
  rintro e wx ⟨rfl, rfl⟩
  go_wp2_with fail
  refine (HG.out _).mono ?_
  rintro e wx ⟨rfl, rfl⟩
  go_wp2_with fail
  refine (HTH.out _).mono ?_
  rintro e w2 ⟨rfl, k2⟩
  have X2 := Lib.hid (X1.out.grow k2)
  clear k2 X1 s0 s1 s2 s3 s4 s5 sf a0 a1 a2 a3 z0 z1 z2 z3 z4 z5 zf hsz
  obtain ⟨⟨s0, s1, s2, s3, s4, s5⟩, sf⟩ := X2.out.cs
  obtain ⟨a0, a1, a2, a3⟩ := X2.out.ca
  obtain ⟨⟨z0, z1, z2, z3, z4, z5⟩, zf⟩ := X2.out.cz
  have hsz := (Array.getElem?_eq_some_iff.1 X2.out.z).1
  go_wp2_with fail
  apply region_once
  case first =>
    go_region_with fail
    all_goals exact ⟨rfl, rfl⟩
  have X3 := Lib.hid ((X2.out.setc1 (c1 - x + y)).grow ((Below.refl _ _).drew))
  clear s0 s1 s2 s3 s4 s5 sf a0 a1 a2 a3 z0 z1 z2 z3 z4 z5 zf hsz X2
  generalize (w2.setCell ⟨w.heap.size, 5, none⟩ (.int .i64 (c1 - x + y))).drew = V at *
  obtain ⟨⟨s0, s1, s2, s3, s4, s5⟩, sf⟩ := X3.out.cs
  obtain ⟨⟨z0, z1, z2, z3, z4, z5⟩, zf⟩ := X3.out.cz
  have hsz := (Array.getElem?_eq_some_iff.1 X3.out.z).1
  go_wp2_with fail
  apply region_once
  case first =>
    go_region_with fail
    all_goals exact ⟨rfl, rfl⟩
  have RF := Lib.hid (X3.out.find (mc) (mb) (n0) (n1) (c0) (c1 - x + y))
  unfold put6 at RF
  generalize (((((((V.setCell ⟨w.heap.size + 1 + 1, 0, none⟩ (.int .i64 (mc))).setCell ⟨w.heap.size + 1 + 1, 1, none⟩ (.int .i64 (mb))).setCell ⟨w.heap.size + 1 + 1, 2, none⟩ (.int .i64 (n0))).setCell ⟨w.heap.size + 1 + 1, 3, none⟩ (.int .i64 (n1))).setCell ⟨w.heap.size + 1 + 1, 4, none⟩ (.int .i64 (c0))).setCell ⟨w.heap.size + 1 + 1, 5, none⟩ (.int .i64 (c1 - x + y)))).drew = U at *
  go_wp2_with fail
  obtain ⟨u0, u1, u2, u3, u4, u5⟩ := s_cells RF.out.2.2
  refine bodyPost_ret (v := .tuple #[.pointer (some ⟨b, 0, none⟩), sV (mc) (mb) (n0) (n1) (c0) (c1 - x + y), .bool true]) (by simp [sV, results, u0, u1, u2, u3, u4, u5, Try.results13, go_sem]) rfl ⟨rfl, RF.out.1, RF.out.2.1⟩
set_option maxRecDepth 100000 in
set_option maxHeartbeats 2000000 in
theorem st_set_bad (b : Nat) (mc mb n0 c0 n1 c1 : Int) (hs : (S.mk mc mb n0 c0 n1 c1).ok) (g x y : Int) (hf : okLim x y = false) (w : World) (hb : Bud w b ⟨mc, mb, n0, c0, n1, c1⟩) :
    Calls Try.prog 13 #[.pointer (some ⟨b, 0, none⟩), sV mc mb n0 n1 c0 c1, .agg #[.int .i64 4, .int .i64 g, .int .i64 x, .int .i64 y]] w (SR b (mc) (mb) (n0) (c0) (n1) (c1) w) := by
  have HO := Lib.hid (fun (v : World) (hv : Bud v b ⟨mc, mb, n0, c0, n1, c1⟩) => Set_bad b ⟨mc, mb, n0, c0, n1, c1⟩ hs x y hf v hv)
  have HF := Lib.hid (fun v => lallowed_any x y v)
  rw [hf] at HF
  have X0 := Lib.hid (Sb.start hb mc mb n0 n1 c0 c1 4 g x y)
  have hlt := BoxA.lt hb
  obtain ⟨o1, o2, o3, o4, o5, o6, o7, o8, o9, o10, o11, o12⟩ := hs
  simp only at o1 o2 o3 o4 o5 o6 o7 o8 o9 o10 o11 o12
  clear hb o1 o2 o3 o4 o5 o6 o7 o8 o9 o10 o11 o12 hf
  unfold SR sV
  unfold sO aO at X0
  go_enter Try.func13, Try.ntmps13
  go_wp2_with fail
  refine (HO.out _ X0.out.bud).mono ?_
  rintro e w1 ⟨rfl, hw⟩
  have X1 := Lib.hid (hw ▸ X0.out)
  clear hw X0
  obtain ⟨⟨s0, s1, s2, s3, s4, s5⟩, sf⟩ := X1.out.cs
  obtain ⟨a0, a1, a2, a3⟩ := X1.out.ca
  obtain ⟨⟨z0, z1, z2, z3, z4, z5⟩, zf⟩ := X1.out.cz
  have hsz := (Array.getElem?_eq_some_iff.1 X1.out.z).1
  go_wp2_with fail
  refine (HF.out _).mono ?_
  rintro e wx ⟨rfl, rfl⟩
  clear s0 s1 s2 s3 s4 s5 sf a0 a1 a2 a3 z0 z1 z2 z3 z4 z5 zf hsz
  obtain ⟨⟨s0, s1, s2, s3, s4, s5⟩, sf⟩ := X1.out.cs
  obtain ⟨⟨z0, z1, z2, z3, z4, z5⟩, zf⟩ := X1.out.cz
  have hsz := (Array.getElem?_eq_some_iff.1 X1.out.z).1
  go_wp2_with fail
  apply region_once
  case first =>
    go_region_with fail
    all_goals exact ⟨rfl, rfl⟩
  have RF := Lib.hid (X1.out.find (mc) (mb) (n0) (n1) (c0) (c1))
  unfold put6 at RF
  generalize (((((((w1.setCell ⟨w.heap.size + 1 + 1, 0, none⟩ (.int .i64 (mc))).setCell ⟨w.heap.size + 1 + 1, 1, none⟩ (.int .i64 (mb))).setCell ⟨w.heap.size + 1 + 1, 2, none⟩ (.int .i64 (n0))).setCell ⟨w.heap.size + 1 + 1, 3, none⟩ (.int .i64 (n1))).setCell ⟨w.heap.size + 1 + 1, 4, none⟩ (.int .i64 (c0))).setCell ⟨w.heap.size + 1 + 1, 5, none⟩ (.int .i64 (c1)))).drew = U at *
  go_wp2_with fail
  obtain ⟨u0, u1, u2, u3, u4, u5⟩ := s_cells RF.out.2.2
  refine bodyPost_ret (v := .tuple #[.pointer (some ⟨b, 0, none⟩), sV (mc) (mb) (n0) (n1) (c0) (c1), .bool true]) (by simp [sV, results, u0, u1, u2, u3, u4, u5, Try.results13, go_sem]) rfl ⟨rfl, RF.out.1, RF.out.2.1⟩
set_option maxRecDepth 100000 in
set_option maxHeartbeats 2000000 in
theorem st_set_ok (b : Nat) (mc mb n0 c0 n1 c1 : Int) (hs : (S.mk mc mb n0 c0 n1 c1).ok) (g x y : Int) (hf : okLim x y = true) (w : World) (hb : Bud w b ⟨mc, mb, n0, c0, n1, c1⟩) :
    Calls Try.prog 13 #[.pointer (some ⟨b, 0, none⟩), sV mc mb n0 n1 c0 c1, .agg #[.int .i64 4, .int .i64 g, .int .i64 x, .int .i64 y]] w (SR b (x) (y) (n0) (c0) (n1) (c1) w) := by
  have HO := Lib.hid (fun (v : World) (hv : Bud v b ⟨mc, mb, n0, c0, n1, c1⟩) => Set_ok b mc mb n0 c0 n1 c1 hs x y hf v hv)
  have HF := Lib.hid (fun v => lallowed_any x y v)
  rw [hf] at HF
  have X0 := Lib.hid (Sb.start hb mc mb n0 n1 c0 c1 4 g x y)
  have hlt := BoxA.lt hb
  obtain ⟨o1, o2, o3, o4, o5, o6, o7, o8, o9, o10, o11, o12⟩ := hs
  simp only at o1 o2 o3 o4 o5 o6 o7 o8 o9 o10 o11 o12
  clear hb o1 o2 o3 o4 o5 o6 o7 o8 o9 o10 o11 o12 hf
  unfold SR sV
  unfold sO aO at X0
  go_enter Try.func13, Try.ntmps13
  go_wp2_with fail
  refine (HO.out _ X0.out.bud).mono ?_
  rintro e w1 ⟨rfl, h1, k1⟩
  have X1 := Lib.hid (X0.out.op h1 k1)
  clear h1 k1 X0
  obtain ⟨⟨s0, s1, s2, s3, s4, s5⟩, sf⟩ := X1.out.cs
  obtain ⟨a0, a1, a2, a3⟩ := X1.out.ca
  obtain ⟨⟨z0, z1, z2, z3, z4, z5⟩, zf⟩ := X1.out.cz
  have hsz := (Array.getElem?_eq_some_iff.1 X1.out.z).1
  go_wp2_with fail
  refine (HF.out _).mono ?_
  rintro e wx ⟨rfl, rfl⟩
  go_wp2_with fail
  apply region_once
  case first =>
    go_region_with fail
    all_goals exact ⟨rfl, rfl⟩
  have X2 := Lib.hid ((X1.out.setm x y).grow ((Below.refl _ _).drew))
  clear s0 s1 s2 s3 s4 s5 sf a0 a1 a2 a3 z0 z1 z2 z3 z4 z5 zf hsz X1
  generalize ((w1.setCell ⟨w.heap.size, 0, none⟩ (.int .i64 x)).setCell ⟨w.heap.size, 1, none⟩ (.int .i64 y)).drew = V at *
  obtain ⟨⟨s0, s1, s2, s3, s4, s5⟩, sf⟩ := X2.out.cs
  obtain ⟨⟨z0, z1, z2, z3, z4, z5⟩, zf⟩ := X2.out.cz
  have hsz := (Array.getElem?_eq_some_iff.1 X2.out.z).1
  go_wp2_with fail
  apply region_once
  case first =>
    go_region_with fail
    all_goals exact ⟨rfl, rfl⟩
  have RF := Lib.hid (X2.out.find (x) (y) (n0) (n1) (c0) (c1))
  unfold put6 at RF
  generalize (((((((V.setCell ⟨w.heap.size + 1 + 1, 0, none⟩ (.int .i64 (x))).setCell ⟨w.heap.size + 1 + 1, 1, none⟩ (.int .i64 (y))).setCell ⟨w.heap.size + 1 + 1, 2, none⟩ (.int .i64 (n0))).setCell ⟨w.heap.size + 1 + 1, 3, none⟩ (.int .i64 (n1))).setCell ⟨w.heap.size + 1 + 1, 4, none⟩ (.int .i64 (c0))).setCell ⟨w.heap.size + 1 + 1, 5, none⟩ (.int .i64 (c1)))).drew = U at *
  go_wp2_with fail
  obtain ⟨u0, u1, u2, u3, u4, u5⟩ := s_cells RF.out.2.2
  refine bodyPost_ret (v := .tuple #[.pointer (some ⟨b, 0, none⟩), sV (x) (y) (n0) (n1) (c0) (c1), .bool true]) (by simp [sV, results, u0, u1, u2, u3, u4, u5, Try.results13, go_sem]) rfl ⟨rfl, RF.out.1, RF.out.2.1⟩
end Go.Proofs.Ytjlfjgmkbjfbcaa.Bud
