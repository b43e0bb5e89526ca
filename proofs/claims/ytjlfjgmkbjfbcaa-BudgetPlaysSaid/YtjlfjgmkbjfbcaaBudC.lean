/-
  The law's step of layer 17 (budget), whatever the call is.
-/
import Derived.Test.YtjlfjgmkbjfbcaaBudM
import Derived.Test.YtjlfjgmkbjfbcaaBudI
import Derived.Test.YtjlfjgmkbjfbcaaBudE
import Derived.Test.YtjlfjgmkbjfbcaaBudD
set_option linter.unusedVariables false
set_option linter.unusedSimpArgs false
namespace Go.Proofs.Ytjlfjgmkbjfbcaa.Bud
open Go.RowKit Kit
set_option maxRecDepth 100000 in
set_option maxHeartbeats 2000000 in
theorem st_add1 (b : Nat) (mc mb n0 c0 n1 c1 : Int) (hs : (S.mk mc mb n0 c0 n1 c1).ok) (x y : Int) (hx0 : 0 ≤ x) (hx1 : x ≤ 1099511627776) (hfit : n1 + 1 ≤ 2097152 ∧ c1 + x ≤ 2305843009213693952) (w : World) (hb : Bud w b ⟨mc, mb, n0, c0, n1, c1⟩) :
    Calls Try.prog 13 #[.pointer (some ⟨b, 0, none⟩), sV mc mb n0 n1 c0 c1, .agg #[.int .i64 0, .int .i64 1, .int .i64 x, .int .i64 y]] w (SR b (mc) (mb) (n0) (c0) (n1 + 1) (c1 + x) w) := by
  have HO := Lib.hid (fun (v : World) (hv : Bud v b ⟨mc, mb, n0, c0, n1, c1⟩) => Add_ok1 b mc mb n0 c0 n1 c1 hs x hx0 hx1 hfit v hv)
  have HF := Lib.hid (fun v => lfair_any 1 x v)
  have hf : fairI 1 x = true := by unfold fairI; simp; omega
  rw [hf] at HF
  have X0 := Lib.hid (Sb.start hb mc mb n0 n1 c0 c1 0 1 x y)
  have hlt := BoxA.lt hb
  obtain ⟨o1, o2, o3, o4, o5, o6, o7, o8, o9, o10, o11, o12⟩ := hs
  simp only at o1 o2 o3 o4 o5 o6 o7 o8 o9 o10 o11 o12
  have hw1 : IntKind.i64.wrap (n1 + 1) = n1 + 1 := IntWalk.i64_in _ (by omega)
  have hw2 : IntKind.i64.wrap (c1 + x) = c1 + x := IntWalk.i64_in _ (by omega)
  clear hb o1 o2 o3 o4 o5 o6 o7 o8 o9 o10 o11 o12 hf hfit
  unfold SR sV
  unfold sO aO at X0
  go_enter Try.func13, Try.ntmps13
  go_wp2_with fail
  refine (HO.out _ X0.out.bud).mono ?_
  rintro e w1 ⟨rfl, h1, k1⟩
  have X1 := Lib.hid (X0.out.op h1 k1)
  clear h1 k1 X0
  obtain ⟨⟨s0, s1, s2, s3, s4, s5⟩, sf⟩ := X1.out.cs
  obtain ⟨a0, a1, a2, a3⟩ := X1.out.ca
  obtain ⟨⟨z0, z1, z2, z3, z4, z5⟩, zf⟩ := X1.out.cz
  have hsz := (Array.getElem?_eq_some_iff.1 X1.out.z).1
  go_wp2_with fail
  refine (HF.out _).mono ?_
  rintro e wx ⟨rfl, rfl⟩
  go_wp2_with fail
  apply region_once
  case first =>
    go_region_with fail
    all_goals exact ⟨rfl, rfl⟩
  have X2 := Lib.hid ((X1.out.set1 (n1 + 1) (c1 + x)).grow ((Below.refl _ _).drew))
  clear s0 s1 s2 s3 s4 s5 sf a0 a1 a2 a3 z0 z1 z2 z3 z4 z5 zf hsz X1
  generalize ((w1.setCell ⟨w.heap.size, 3, none⟩ (.int .i64 (n1 + 1))).setCell ⟨w.heap.size, 5, none⟩ (.int .i64 (c1 + x))).drew = V at *
  obtain ⟨⟨s0, s1, s2, s3, s4, s5⟩, sf⟩ := X2.out.cs
  obtain ⟨⟨z0, z1, z2, z3, z4, z5⟩, zf⟩ := X2.out.cz
  have hsz := (Array.getElem?_eq_some_iff.1 X2.out.z).1
  go_wp2_with fail
  apply region_once
  case first =>
    go_region_with fail
    all_goals exact ⟨rfl, rfl⟩
  have RF := Lib.hid (X2.out.find (mc) (mb) (n0) (n1 + 1) (c0) (c1 + x))
  unfold put6 at RF
  generalize (((((((V.setCell ⟨w.heap.size + 1 + 1, 0, none⟩ (.int .i64 (mc))).setCell ⟨w.heap.size + 1 + 1, 1, none⟩ (.int .i64 (mb))).setCell ⟨w.heap.size + 1 + 1, 2, none⟩ (.int .i64 (n0))).setCell ⟨w.heap.size + 1 + 1, 3, none⟩ (.int .i64 (n1 + 1))).setCell ⟨w.heap.size + 1 + 1, 4, none⟩ (.int .i64 (c0))).setCell ⟨w.heap.size + 1 + 1, 5, none⟩ (.int .i64 (c1 + x)))).drew = U at *
  go_wp2_with fail
  obtain ⟨u0, u1, u2, u3, u4, u5⟩ := s_cells RF.out.2.2
  refine bodyPost_ret (v := .tuple #[.pointer (some ⟨b, 0, none⟩), sV (mc) (mb) (n0) (n1 + 1) (c0) (c1 + x), .bool true]) (by simp [sV, results, u0, u1, u2, u3, u4, u5, Try.results13, go_sem]) rfl ⟨rfl, RF.out.1, RF.out.2.1⟩
set_option maxRecDepth 100000 in
set_option maxHeartbeats 2000000 in
theorem st_copy (b : Nat) (mc mb n0 c0 n1 c1 : Int) (hs : (S.mk mc mb n0 c0 n1 c1).ok) (what g x y : Int) (hw : what ≠ 0 ∧ what ≠ 1 ∧ what ≠ 2 ∧ what ≠ 3 ∧ what ≠ 4) (hfit : n0 + 1 ≤ 2097152 ∧ c0 + 5 ≤ 2305843009213693952) (w : World) (hb : Bud w b ⟨mc, mb, n0, c0, n1, c1⟩) :
    Calls Try.prog 13 #[.pointer (some ⟨b, 0, none⟩), sV mc mb n0 n1 c0 c1, .agg #[.int .i64 what, .int .i64 g, .int .i64 x, .int .i64 y]] w fun e w' => ∃ c, e = .returned (.tuple #[.pointer (some ⟨c, 0, none⟩), sV mc mb n0 n1 c0 c1, .bool true]) ∧ w.heap.size ≤ c ∧ Bud w' c ⟨mc, mb, n0, c0, n1, c1⟩ ∧ But b w w' := by
  have HC := Lib.hid (fun (v : World) (hv : Bud v b ⟨mc, mb, n0, c0, n1, c1⟩) => (Copy_any b _ hs v hv).mono (fun e w' h => (⟨v.heap.size, h.1, Nat.le_refl _, h.2.1, h.2.2⟩ : ∃ c, e = .returned (.pointer (some ⟨c, 0, none⟩)) ∧ v.heap.size ≤ c ∧ Bud w' c ⟨mc, mb, n0, c0, n1, c1⟩ ∧ Below v.heap.size v w')))
  have HA := Lib.hid (fun (v : World) (hv : Bud v b ⟨mc, mb, n0, c0, n1, c1⟩) => Add_ok0 b mc mb n0 c0 n1 c1 hs 5 (by decide) (by decide) hfit v hv)
  have hs2 : (S.mk mc mb (n0 + 1) (c0 + 5) n1 c1).ok := by
    obtain ⟨o1, o2, o3, o4, o5, o6, o7, o8, o9, o10, o11, o12⟩ := hs
    simp only at o1 o2 o3 o4 o5 o6 o7 o8 o9 o10 o11 o12
    exact ⟨o1, o2, o3, o4, by show 0 ≤ n0 + 1; omega, hfit.1, by show 0 ≤ c0 + 5; omega, hfit.2, o9, o10, o11, o12⟩
  have HB := Lib.hid (fun (v : World) (hv : Bud v b ⟨mc, mb, n0 + 1, c0 + 5, n1, c1⟩) => Set_ok b mc mb (n0 + 1) (c0 + 5) n1 c1 hs2 1 1 rfl v hv)
  have X0 := Lib.hid (Sb.start hb mc mb n0 n1 c0 c1 what g x y)
  have hlt := BoxA.lt hb
  have hz0 : (((w.alloc (sO mc mb n0 n1 c0 c1)).alloc (aO what g x y)).alloc (sO 0 0 0 0 0 0)).heap.size = w.heap.size + 1 + 1 + 1 := by simp
  have HZ0 := Lib.hid hz0
  obtain ⟨v0, v1, v2, v3, v4⟩ := hw
  have e0 : (what == 0) = false := beq_eq_false_iff_ne.2 v0
  have e1 : (what == 1) = false := beq_eq_false_iff_ne.2 v1
  have e2 : (what == 2) = false := beq_eq_false_iff_ne.2 v2
  have e3 : (what == 3) = false := beq_eq_false_iff_ne.2 v3
  have e4 : (what == 4) = false := beq_eq_false_iff_ne.2 v4
  clear hb hs hs2 hfit v0 v1 v2 v3 v4 hz0
  unfold sV
  unfold sO aO at X0 HZ0
  go_enter Try.func13, Try.ntmps13
  go_wp2_with fail
  refine (HC.out _ X0.out.bud).mono ?_
  rintro e w1 ⟨c, rfl, hcl, hc, k1⟩
  rw [HZ0.out] at hcl
  have X1 := Lib.hid (X0.out.grow k1)
  have C1 := Lib.hid hc
  clear hc k1 X0
  go_wp2_with fail
  refine (HA.out _ X1.out.bud).mono ?_
  rintro e w2 ⟨rfl, h2, k2⟩
  have X2 := Lib.hid (X1.out.op h2 k2)
  have C2 := Lib.hid (show Bud w2 c _ from (k2.block _ (BoxA.lt C1.out) (by omega)).trans C1.out)
  clear h2 k2 X1 C1
  go_wp2_with fail
  refine (HB.out _ X2.out.bud).mono ?_
  rintro e w3 ⟨rfl, h3, k3⟩
  have X3 := Lib.hid (X2.out.op h3 k3)
  have C3 := Lib.hid (show Bud w3 c _ from (k3.block _ (BoxA.lt C2.out) (by omega)).trans C2.out)
  clear h3 k3 X2 C2
  obtain ⟨⟨s0, s1, s2, s3, s4, s5⟩, sf⟩ := X3.out.cs
  obtain ⟨⟨z0, z1, z2, z3, z4, z5⟩, zf⟩ := X3.out.cz
  have hsz := (Array.getElem?_eq_some_iff.1 X3.out.z).1
  go_wp2_with fail
  apply region_once
  case first =>
    go_region_with fail
    all_goals exact ⟨rfl, rfl⟩
  have RF := Lib.hid (X3.out.find mc mb n0 n1 c0 c1)
  have RC := Lib.hid (show Bud (put6 w3 (w.heap.size + 1 + 1) mc mb n0 n1 c0 c1).drew c ⟨mc, mb, n0, c0, n1, c1⟩ from BoxA.below ((put6_but.block _ (BoxA.lt C3.out) (by omega)).trans C3.out) ((Below.refl _ _).drew))
  unfold put6 at RF RC
  generalize ((((((w3.setCell ⟨w.heap.size + 1 + 1, 0, none⟩ (.int .i64 mc)).setCell ⟨w.heap.size + 1 + 1, 1, none⟩ (.int .i64 mb)).setCell ⟨w.heap.size + 1 + 1, 2, none⟩ (.int .i64 n0)).setCell ⟨w.heap.size + 1 + 1, 3, none⟩ (.int .i64 n1)).setCell ⟨w.heap.size + 1 + 1, 4, none⟩ (.int .i64 c0)).setCell ⟨w.heap.size + 1 + 1, 5, none⟩ (.int .i64 c1)).drew = U at *
  go_wp2_with fail
  obtain ⟨u0, u1, u2, u3, u4, u5⟩ := s_cells RF.out.2.2
  refine bodyPost_ret (v := .tuple #[.pointer (some ⟨c, 0, none⟩), sV mc mb n0 n1 c0 c1, .bool true]) (by simp [sV, results, u0, u1, u2, u3, u4, u5, Try.results13, go_sem]) rfl ⟨c, rfl, by omega, RC.out, RF.out.2.1⟩
/-- what a step gives, whatever the call is -/
def StepR (b : Nat) (k : Int) (w : World) : Ending → World → Prop := fun e w' => ∃ (b' : Nat) (mc mb n0 c0 n1 c1 : Int), e = .returned (.tuple #[.pointer (some ⟨b', 0, none⟩), sV mc mb n0 n1 c0 c1, .bool true]) ∧ Inv (k + 1) ⟨mc, mb, n0, c0, n1, c1⟩ ∧ Bud w' b' ⟨mc, mb, n0, c0, n1, c1⟩ ∧ (b' = b ∨ w.heap.size ≤ b') ∧ But b w w'
theorem SR.step {b : Nat} {mc mb n0 c0 n1 c1 k : Int} {w w' : World} {e : Ending} (h : SR b mc mb n0 c0 n1 c1 w e w') (hi : Inv (k + 1) ⟨mc, mb, n0, c0, n1, c1⟩) : StepR b k w e w' := by
  obtain ⟨h1, h2, h3⟩ := h
  exact ⟨b, mc, mb, n0, c0, n1, c1, h1, hi, h2, .inl rfl, h3⟩
theorem fair_of {g c : Int} (h : fairI g c = true) : (g = 0 ∨ g = 1) ∧ 0 ≤ c ∧ c ≤ 1099511627776 := fair_spec h
theorem step_any (b : Nat) (mc mb n0 c0 n1 c1 : Int) (k what g x y : Int) (hi : Inv k ⟨mc, mb, n0, c0, n1, c1⟩) (k0 : 0 ≤ k) (hk : k ≤ 60) (w : World) (hb : Bud w b ⟨mc, mb, n0, c0, n1, c1⟩) :
    Calls Try.prog 13 #[.pointer (some ⟨b, 0, none⟩), sV mc mb n0 n1 c0 c1, .agg #[.int .i64 what, .int .i64 g, .int .i64 x, .int .i64 y]] w (StepR b k w) := by
  have hs := hi.ok (by omega)
  have hm := hi.mono
  have hi' := hi
  obtain ⟨a, ⟨b1, b2, b3⟩, ⟨d1, d2, d3⟩, e1, e2⟩ := hi'
  simp only at b1 b2 b3 d1 d2 d3 e1 e2
  by_cases w0 : what = 0
  · subst w0
    cases hf : fairI g x
    · exact (addb_bad b mc mb n0 c0 n1 c1 hs g x y hf w hb).mono fun e w' h => h.step hm
    · obtain ⟨hg, x0, x1⟩ := fair_spec hf
      rcases hg with rfl | rfl
      · exact (st_add0 b mc mb n0 c0 n1 c1 hs x y x0 x1 ⟨by omega, by omega⟩ w hb).mono fun e w' h => h.step ⟨a, ⟨by show 0 ≤ n0 + 1; omega, b2, by show n0 + 1 + n1 ≤ k + 1; omega⟩, ⟨by show 0 ≤ c0 + x; omega, d2, by show c0 + x + c1 ≤ _; omega⟩, fun h => by exfalso; have h : n0 + 1 = 0 := h; omega, e2⟩
      · exact (st_add1 b mc mb n0 c0 n1 c1 hs x y x0 x1 ⟨by omega, by omega⟩ w hb).mono fun e w' h => h.step ⟨a, ⟨b1, by show 0 ≤ n1 + 1; omega, by show n0 + (n1 + 1) ≤ k + 1; omega⟩, ⟨d1, by show 0 ≤ c1 + x; omega, by show c0 + (c1 + x) ≤ _; omega⟩, e1, fun h => by exfalso; have h : n1 + 1 = 0 := h; omega⟩
  by_cases w1 : what = 1
  · subst w1
    cases hf : fairI g x
    · exact (remove_bad b mc mb n0 c0 n1 c1 hs g x y hf w hb).mono fun e w' h => h.step hm
    · obtain ⟨hg, x0, x1⟩ := fair_spec hf
      rcases hg with rfl | rfl
      · cases hh : hasB n0 c0 x
        · exact (st_remove_none0 b mc mb n0 c0 n1 c1 hs x y x0 x1 e1 hh w hb).mono fun e w' h => h.step hm
        · obtain ⟨f1, f2, f3⟩ := hasB_spec hh b1 e1
          exact (st_remove_ok0 b mc mb n0 c0 n1 c1 hs x y x0 x1 e1 hh w hb).mono fun e w' h => h.step ⟨a, ⟨by show 0 ≤ n0 - 1; omega, b2, by show n0 - 1 + n1 ≤ k + 1; omega⟩, ⟨by show 0 ≤ c0 - x; omega, d2, by show c0 - x + c1 ≤ _; omega⟩, fun h => by have h : n0 - 1 = 0 := h; have := f3 (by omega); show c0 - x = 0; omega, e2⟩
      · cases hh : hasB n1 c1 x
        · exact (st_remove_none1 b mc mb n0 c0 n1 c1 hs x y x0 x1 e2 hh w hb).mono fun e w' h => h.step hm
        · obtain ⟨f1, f2, f3⟩ := hasB_spec hh b2 e2
          exact (st_remove_ok1 b mc mb n0 c0 n1 c1 hs x y x0 x1 e2 hh w hb).mono fun e w' h => h.step ⟨a, ⟨b1, by show 0 ≤ n1 - 1; omega, by show n0 + (n1 - 1) ≤ k + 1; omega⟩, ⟨d1, by show 0 ≤ c1 - x; omega, by show c0 + (c1 - x) ≤ _; omega⟩, e1, fun h => by have h : n1 - 1 = 0 := h; have := f3 (by omega); show c1 - x = 0; omega⟩
  by_cases w2 : what = 2
  · subst w2
    cases hf : fairI g x
    · exact (moveb_bad b mc mb n0 c0 n1 c1 hs g x y hf w hb).mono fun e w' h => h.step hm
    · obtain ⟨hg, x0, x1⟩ := fair_spec hf
      rcases hg with rfl | rfl
      · cases hh : hasB n0 c0 x
        · exact (st_move_none0 b mc mb n0 c0 n1 c1 hs x y x0 x1 e1 ⟨by omega, by omega⟩ hh w hb).mono fun e w' h => h.step hm
        · obtain ⟨f1, f2, f3⟩ := hasB_spec hh b1 e1
          exact (st_move_ok0 b mc mb n0 c0 n1 c1 hs x y x0 x1 e1 ⟨by omega, by omega⟩ hh w hb).mono fun e w' h => h.step ⟨a, ⟨by show 0 ≤ n0 - 1; omega, by show 0 ≤ n1 + 1; omega, by show n0 - 1 + (n1 + 1) ≤ k + 1; omega⟩, ⟨by show 0 ≤ c0 - x; omega, by show 0 ≤ c1 + x; omega, by show c0 - x + (c1 + x) ≤ _; omega⟩, fun h => by have h : n0 - 1 = 0 := h; have := f3 (by omega); show c0 - x = 0; omega, fun h => by exfalso; have h : n1 + 1 = 0 := h; omega⟩
      · cases hh : hasB n1 c1 x
        · exact (st_move_none1 b mc mb n0 c0 n1 c1 hs x y x0 x1 e2 ⟨by omega, by omega⟩ hh w hb).mono fun e w' h => h.step hm
        · obtain ⟨f1, f2, f3⟩ := hasB_spec hh b2 e2
          exact (st_move_ok1 b mc mb n0 c0 n1 c1 hs x y x0 x1 e2 ⟨by omega, by omega⟩ hh w hb).mono fun e w' h => h.step ⟨a, ⟨by show 0 ≤ n0 + 1; omega, by show 0 ≤ n1 - 1; omega, by show n0 + 1 + (n1 - 1) ≤ k + 1; omega⟩, ⟨by show 0 ≤ c0 + x; omega, by show 0 ≤ c1 - x; omega, by show c0 + x + (c1 - x) ≤ _; omega⟩, fun h => by exfalso; have h : n0 + 1 = 0 := h; omega, fun h => by have h : n1 - 1 = 0 := h; have := f3 (by omega); show c1 - x = 0; omega⟩
  by_cases w3 : what = 3
  · subst w3
    cases hf : fairI g x
    · exact (changeb_bad b mc mb n0 c0 n1 c1 hs g x y hf w hb).mono fun e w' h => h.step hm
    · cases hf2 : fairI g y
      · exact (changeb2_bad b mc mb n0 c0 n1 c1 hs g x y hf hf2 w hb).mono fun e w' h => h.step hm
      · obtain ⟨hg, x0, x1⟩ := fair_spec hf
        obtain ⟨-, y0, y1⟩ := fair_spec hf2
        rcases hg with rfl | rfl
        · cases hh : hasB n0 c0 x
          · exact (st_change_none0 b mc mb n0 c0 n1 c1 hs x y x0 x1 y0 y1 e1 ⟨by omega, by omega⟩ hh w hb).mono fun e w' h => h.step hm
          · obtain ⟨f1, f2, f3⟩ := hasB_spec hh b1 e1
            exact (st_change_ok0 b mc mb n0 c0 n1 c1 hs x y x0 x1 y0 y1 e1 ⟨by omega, by omega⟩ hh w hb).mono fun e w' h => h.step ⟨a, ⟨b1, b2, by show n0 + n1 ≤ k + 1; omega⟩, ⟨by show 0 ≤ c0 - x + y; omega, d2, by show c0 - x + y + c1 ≤ _; omega⟩, fun h => by exfalso; have h : n0 = 0 := h; omega, e2⟩
        · cases hh : hasB n1 c1 x
          · exact (st_change_none1 b mc mb n0 c0 n1 c1 hs x y x0 x1 y0 y1 e2 ⟨by omega, by omega⟩ hh w hb).mono fun e w' h => h.step hm
          · obtain ⟨f1, f2, f3⟩ := hasB_spec hh b2 e2
            exact (st_change_ok1 b mc mb n0 c0 n1 c1 hs x y x0 x1 y0 y1 e2 ⟨by omega, by omega⟩ hh w hb).mono fun e w' h => h.step ⟨a, ⟨b1, b2, by show n0 + n1 ≤ k + 1; omega⟩, ⟨d1, by show 0 ≤ c1 - x + y; omega, by show c0 + (c1 - x + y) ≤ _; omega⟩, e1, fun h => by exfalso; have h : n1 = 0 := h; omega⟩
  by_cases w4 : what = 4
  · subst w4
    cases hf : okLim x y
    · exact (st_set_bad b mc mb n0 c0 n1 c1 hs g x y hf w hb).mono fun e w' h => h.step hm
    · have hl := lim_spec hf
      obtain ⟨-, m2, m3, m4, m5⟩ := hm
      exact (st_set_ok b mc mb n0 c0 n1 c1 hs g x y hf w hb).mono fun e w' h => h.step ⟨hl, m2, m3, m4, m5⟩
  exact (st_copy b mc mb n0 c0 n1 c1 hs what g x y ⟨w0, w1, w2, w3, w4⟩ ⟨by omega, by omega⟩ w hb).mono fun e w' ⟨c, h1, h2, h3, h4⟩ => ⟨c, mc, mb, n0, c0, n1, c1, h1, hm, h3, .inr h2, h4⟩
end Go.Proofs.Ytjlfjgmkbjfbcaa.Bud
