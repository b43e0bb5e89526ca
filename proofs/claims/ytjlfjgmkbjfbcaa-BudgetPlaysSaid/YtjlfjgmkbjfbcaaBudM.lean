/-
  Walks over the laws of layer 17 (budget): the comparison with the document's state.
-/
import Derived.Test.YtjlfjgmkbjfbcaaBudL
import Derived.Test.YtjlfjgmkbjfbcaaBudH
import Derived.Deep.RegionHeld3
set_option linter.unusedVariables false
set_option linter.unusedSimpArgs false
namespace Go.Proofs.Ytjlfjgmkbjfbcaa.Bud
open Go.RowKit Kit
theorem over_max (a b : Int) : max 0 (a - b) = overI a b := by unfold overI; split <;> omega
theorem over_if (a b : Int) : (if 0 < a - b then a - b else 0) = overI a b := by unfold overI; split <;> split <;> omega
/-- block x is a variable that holds a state -/
def St (W : World) (x : Nat) (mc mb n0 n1 c0 c1 : Int) : Prop := BoxA W x 31 #[.int .i64 mc, .int .i64 mb, .int .i64 n0, .int .i64 n1, .int .i64 c0, .int .i64 c1]
theorem St.cs {W : World} {x : Nat} {mc mb n0 n1 c0 c1 : Int} (h : St W x mc mb n0 n1 c0 c1) : W.cell? ⟨x, 0, none⟩ = some (.int .i64 mc) ∧ W.cell? ⟨x, 1, none⟩ = some (.int .i64 mb) ∧ W.cell? ⟨x, 2, none⟩ = some (.int .i64 n0) ∧ W.cell? ⟨x, 3, none⟩ = some (.int .i64 n1) ∧ W.cell? ⟨x, 4, none⟩ = some (.int .i64 c0) ∧ W.cell? ⟨x, 5, none⟩ = some (.int .i64 c1) :=
  ⟨BoxA.cell h 0, BoxA.cell h 1, BoxA.cell h 2, BoxA.cell h 3, BoxA.cell h 4, BoxA.cell h 5⟩
theorem St.new (W : World) (mc mb n0 n1 c0 c1 : Int) : St (W.alloc (.cells #[.int .i64 mc, .int .i64 mb, .int .i64 n0, .int .i64 n1, .int .i64 c0, .int .i64 c1] 31)) W.heap.size mc mb n0 n1 c0 c1 := (MapKept.heap_alloc W _).1
theorem St.below {W W' : World} {x : Nat} {mc mb n0 n1 c0 c1 : Int} (h : St W x mc mb n0 n1 c0 c1) (hb : Below W.heap.size W W') : St W' x mc mb n0 n1 c0 c1 := BoxA.below h hb
theorem St.lt {W : World} {x : Nat} {mc mb n0 n1 c0 c1 : Int} (h : St W x mc mb n0 n1 c0 c1) : x < W.heap.size := BoxA.lt h
theorem St.fr {W : World} {x : Nat} {mc mb n0 n1 c0 c1 : Int} (h : St W x mc mb n0 n1 c0 c1) (j : Nat) : W.frozen? ⟨x, j, none⟩ = false := BoxA.frozen h j
set_option maxRecDepth 100000 in
set_option maxHeartbeats 2000000 in
theorem is_true (b : Nat) (mc mb n0 c0 n1 c1 : Int) (hs : (S.mk mc mb n0 c0 n1 c1).ok) (w : World) (hb : Bud w b ⟨mc, mb, n0, c0, n1, c1⟩) :
    Calls Try.prog 12 #[.pointer (some ⟨b, 0, none⟩), .agg #[.int .i64 mc, .int .i64 mb, .int .i64 n0, .int .i64 n1, .int .i64 c0, .int .i64 c1]] w fun e w' => e = .returned (.bool true) ∧ Below w.heap.size w w' := by
  have HS := Lib.hid hs
  have HL := Lib.hid (fun (v : World) (hv : Below w.heap.size w v) => Limits_any b _ hs v (BoxA.below hb hv))
  have HU0 := Lib.hid (fun (v : World) (hv : Below w.heap.size w v) => used_true b 0 n0 c0 _ (Used_0 b _ hs v (BoxA.below hb hv)))
  have HU1 := Lib.hid (fun (v : World) (hv : Below w.heap.size w v) => used_true b 1 n1 c1 _ (Used_1 b _ hs v (BoxA.below hb hv)))
  have HU2 := Lib.hid (fun (v : World) (hv : Below w.heap.size w v) => used_true b 2 0 0 _ (Used_out b _ hs 2 (by decide) v (BoxA.below hb hv)))
  have HU3 := Lib.hid (fun (v : World) (hv : Below w.heap.size w v) => used_true b (-1) 0 0 _ (Used_out b _ hs (-1) (by decide) v (BoxA.below hb hv)))
  have HT := Lib.hid (fun (v : World) (hv : Below w.heap.size w v) => total_true b (n0 + n1) (c0 + c1) _ (Total_any b _ hs v (BoxA.below hb hv)))
  have HO := Lib.hid (fun (v : World) (hv : Below w.heap.size w v) (x y : Int) (hx : x = overI (n0 + n1) mc) (hy : y = overI (c0 + c1) mb) => (by subst hx; subst hy; exact over_true b (overI (n0 + n1) mc) (overI (c0 + c1) mb) _ (Over_any b _ hs v (BoxA.below hb hv)) : Calls Try.prog 24 #[.pointer (some ⟨b, 0, none⟩), .int .i64 x, .int .i64 y] v fun e w' => e = .returned (.bool true) ∧ Below v.heap.size v w'))
  obtain ⟨o1, o2, o3, o4, o5, o6, o7, o8, o9, o10, o11, o12⟩ := hs
  simp only at o1 o2 o3 o4 o5 o6 o7 o8 o9 o10 o11 o12
  have hw1 : IntKind.i64.wrap (n0 + n1) = n0 + n1 := IntWalk.i64_in _ (by omega)
  have hw2 : IntKind.i64.wrap (c0 + c1) = c0 + c1 := IntWalk.i64_in _ (by omega)
  have hw3 : IntKind.i64.wrap (n0 + n1 - mc) = n0 + n1 - mc := IntWalk.i64_in _ (by omega)
  have hw4 : IntKind.i64.wrap (c0 + c1 - mb) = c0 + c1 - mb := IntWalk.i64_in _ (by omega)
  have HO1 := Lib.hid (over_if (n0 + n1) mc)
  have HO2 := Lib.hid (over_if (c0 + c1) mb)
  clear hb o1 o2 o3 o4 o5 o6 o7 o8 o9 o10 o11 o12
  go_enter Try.func12, Try.ntmps12
  go_wp2_with fail
  refine (HL.out _ (by go_grown)).mono ?_
  rintro e w1 ⟨rfl, b1⟩
  have X1 := Lib.hid ((St.new w mc mb n0 n1 c0 c1).below b1)
  have B1 := Lib.hid (show Below w.heap.size w w1 from tr (by go_grown) b1)
  clear b1
  obtain ⟨x0, x1, x2, x3, x4, x5⟩ := X1.out.cs
  have hl1 := X1.out.lt
  go_wp2_with fail
  refine (pair_true mc mb _).mono ?_
  rintro e wx ⟨rfl, rfl⟩
  go_wp2_with fail
  refine (HU0.out _ B1.out).mono ?_
  rintro e w2 ⟨rfl, b2⟩
  have X2 := Lib.hid (X1.out.below b2)
  have B2 := Lib.hid (tr B1.out b2)
  clear b2 x0 x1 x2 x3 x4 x5 hl1 X1 B1
  obtain ⟨x0, x1, x2, x3, x4, x5⟩ := X2.out.cs
  have hl2 := X2.out.lt
  go_wp2_with fail
  refine (HU1.out _ B2.out).mono ?_
  rintro e w3 ⟨rfl, b3⟩
  have X3 := Lib.hid (X2.out.below b3)
  have B3 := Lib.hid (tr B2.out b3)
  clear b3 x0 x1 x2 x3 x4 x5 hl2 X2 B2
  obtain ⟨x0, x1, x2, x3, x4, x5⟩ := X3.out.cs
  have hl3 := X3.out.lt
  go_wp2_with fail
  refine (HU2.out _ B3.out).mono ?_
  rintro e w4 ⟨rfl, b4⟩
  have X4 := Lib.hid (X3.out.below b4)
  have B4 := Lib.hid (tr B3.out b4)
  clear b4 x0 x1 x2 x3 x4 x5 hl3 X3 B3
  obtain ⟨x0, x1, x2, x3, x4, x5⟩ := X4.out.cs
  have hl4 := X4.out.lt
  go_wp2_with fail
  refine (HU3.out _ B4.out).mono ?_
  rintro e w5 ⟨rfl, b5⟩
  have X5 := Lib.hid (X4.out.below b5)
  have B5 := Lib.hid (tr B4.out b5)
  clear b5 x0 x1 x2 x3 x4 x5 hl4 X4 B4
  obtain ⟨x0, x1, x2, x3, x4, x5⟩ := X5.out.cs
  have hl5 := X5.out.lt
  go_wp2_with fail
  refine (HT.out _ B5.out).mono ?_
  rintro e w6 ⟨rfl, b6⟩
  have X6 := Lib.hid (X5.out.below b6)
  have B6 := Lib.hid (tr B5.out b6)
  clear b6 x0 x1 x2 x3 x4 x5 hl5 X5 B5
  obtain ⟨x0, x1, x2, x3, x4, x5⟩ := X6.out.cs
  have hl6 := X6.out.lt
  go_wp2_with fail
  all_goals
    refine (HO.out _ B6.out _ _ (by unfold overI; split <;> omega) (by unfold overI; split <;> omega)).mono ?_
    rintro e w7 ⟨rfl, b7⟩
    go_wp2_with fail
    go_ret
    exact ⟨rfl, tr B6.out b7⟩
end Go.Proofs.Ytjlfjgmkbjfbcaa.Bud
