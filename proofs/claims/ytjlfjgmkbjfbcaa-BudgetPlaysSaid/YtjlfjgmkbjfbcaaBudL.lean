/-
  Walks over the laws' helpers of layer 17 (budget), and the chapter's examples.
-/
import Derived.Test.YtjlfjgmkbjfbcaaBudU
import Derived.Test.YtjlfjgmkbjfbcaaBudT
namespace Go.Proofs.Ytjlfjgmkbjfbcaa.Bud
open Go.RowKit Kit

theorem pair_true (a b : Int) (w : World) :
    Calls Try.prog 21 #[.int .i64 a, .int .i64 b, .int .i64 a, .int .i64 b] w fun e w' => e = .returned (.bool true) ∧ w = w' := by
  go_enter Try.func21, Try.ntmps21
  go_wp2
  go_ret
  exact ⟨ret_bool (by simp), rfl⟩
theorem used_true (b : Nat) (g : Int) (x y : Int) (w : World) (H : Calls Try.prog 28 #[.pointer (some ⟨b, 0, none⟩), .int .i64 g] w fun e w' => e = .returned (.tuple #[.int .i64 x, .int .i64 y]) ∧ Below w.heap.size w w') :
    Calls Try.prog 22 #[.pointer (some ⟨b, 0, none⟩), .int .i64 g, .int .i64 x, .int .i64 y] w fun e w' => e = .returned (.bool true) ∧ Below w.heap.size w w' := by
  have HH := Lib.hid H
  clear H
  go_enter Try.func22, Try.ntmps22
  go_wp2_with fail
  refine HH.out.mono ?_
  rintro e w1 ⟨rfl, b1⟩
  go_wp2_with fail
  refine (pair_true x y _).mono ?_
  rintro e w2 ⟨rfl, rfl⟩
  go_wp2_with fail
  go_ret
  exact ⟨rfl, b1⟩
theorem total_true (b : Nat) (x y : Int) (w : World) (H : Calls Try.prog 27 #[.pointer (some ⟨b, 0, none⟩)] w fun e w' => e = .returned (.tuple #[.int .i64 x, .int .i64 y]) ∧ Below w.heap.size w w') :
    Calls Try.prog 23 #[.pointer (some ⟨b, 0, none⟩), .int .i64 x, .int .i64 y] w fun e w' => e = .returned (.bool true) ∧ Below w.heap.size w w' := by
  have HH := Lib.hid H
  clear H
  go_enter Try.func23, Try.ntmps23
  go_wp2_with fail
  refine HH.out.mono ?_
  rintro e w1 ⟨rfl, b1⟩
  go_wp2_with fail
  refine (pair_true x y _).mono ?_
  rintro e w2 ⟨rfl, rfl⟩
  go_wp2_with fail
  go_ret
  exact ⟨rfl, b1⟩
theorem over_true (b : Nat) (x y : Int) (w : World) (H : Calls Try.prog 38 #[.pointer (some ⟨b, 0, none⟩)] w fun e w' => e = .returned (.tuple #[.int .i64 x, .int .i64 y]) ∧ Below w.heap.size w w') :
    Calls Try.prog 24 #[.pointer (some ⟨b, 0, none⟩), .int .i64 x, .int .i64 y] w fun e w' => e = .returned (.bool true) ∧ Below w.heap.size w w' := by
  have HH := Lib.hid H
  clear H
  go_enter Try.func24, Try.ntmps24
  go_wp2_with fail
  refine HH.out.mono ?_
  rintro e w1 ⟨rfl, b1⟩
  go_wp2_with fail
  refine (pair_true x y _).mono ?_
  rintro e w2 ⟨rfl, rfl⟩
  go_wp2_with fail
  go_ret
  exact ⟨rfl, b1⟩
theorem But.tr {b : Nat} {x y z : World} (h : But b x y) (k : Below y.heap.size y z) : But b x z := h.trans (But.of k)
set_option maxRecDepth 100000 in
set_option maxHeartbeats 4000000 in
theorem known_any (w : World) :
    Calls Try.prog 11 #[] w fun e w' => e = .returned (.bool true) ∧ Below w.heap.size w w' := by
  go_enter Try.func11, Try.ntmps11
  go_wp2_with fail
  refine (New_ok 3 100 (by decide) _).mono ?_
  rintro e w0 ⟨rfl, hw0⟩
  have hb0 : Bud w0 w.heap.size ⟨3, 100, 0, 0, 0, 0⟩ := by rw [hw0]; exact (MapKept.heap_alloc w _).1
  have hB0 : Below w.heap.size w w0 := by rw [hw0]; go_grown
  clear hw0
  obtain ⟨b, hbw⟩ : ∃ b, w.heap.size = b := ⟨_, rfl⟩
  rw [hbw] at hb0 ⊢
  have HBW := Lib.hid hbw
  have hn0 : But b w0 w0 := But.refl _ _
  clear hbw
  go_wp2_with fail
  refine (Add_ok0 b 3 100 0 0 0 0 (by unfold S.ok; decide) 60 (by decide) (by decide) (by decide) _ hb0).mono ?_
  rintro e w1 ⟨rfl, k1, n1⟩
  have hb1 : Bud w1 b ⟨3, 100, 1, 60, 0, 0⟩ := k1
  have hn1 := hn0.trans n1
  clear k1 n1
  go_wp2_with fail
  refine (Add_ok1 b 3 100 1 60 0 0 (by unfold S.ok; decide) 30 (by decide) (by decide) (by decide) _ hb1).mono ?_
  rintro e w2 ⟨rfl, k2, n2⟩
  have hb2 : Bud w2 b ⟨3, 100, 1, 60, 1, 30⟩ := k2
  have hn2 := hn1.trans n2
  clear k2 n2
  go_wp2_with fail
  refine (Add_ok0 b 3 100 1 60 1 30 (by unfold S.ok; decide) 20 (by decide) (by decide) (by decide) _ hb2).mono ?_
  rintro e w3 ⟨rfl, k3, n3⟩
  have hb3 : Bud w3 b ⟨3, 100, 2, 80, 1, 30⟩ := k3
  have hn3 := hn2.trans n3
  clear k3 n3
  go_wp2_with fail
  refine (total_true b 3 110 _ (Total_any b ⟨3, 100, 2, 80, 1, 30⟩ (by unfold S.ok; decide) _ hb3)).mono ?_
  rintro e w4 ⟨rfl, n4⟩
  have hb4 : Bud w4 b ⟨3, 100, 2, 80, 1, 30⟩ := BoxA.below hb3 n4
  have hn4 := hn3.tr n4
  clear n4
  go_wp2_with fail
  refine (over_true b 0 10 _ (Over_any b ⟨3, 100, 2, 80, 1, 30⟩ (by unfold S.ok; decide) _ hb4)).mono ?_
  rintro e w5 ⟨rfl, n5⟩
  have hb5 : Bud w5 b ⟨3, 100, 2, 80, 1, 30⟩ := BoxA.below hb4 n5
  have hn5 := hn4.tr n5
  clear n5
  go_wp2_with fail
  refine (used_true b 0 2 80 _ (Used_0 b ⟨3, 100, 2, 80, 1, 30⟩ (by unfold S.ok; decide) _ hb5)).mono ?_
  rintro e w6 ⟨rfl, n6⟩
  have hb6 : Bud w6 b ⟨3, 100, 2, 80, 1, 30⟩ := BoxA.below hb5 n6
  have hn6 := hn5.tr n6
  clear n6
  go_wp2_with fail
  refine (Move_ok0 b 3 100 2 80 1 30 (by unfold S.ok; decide) 60 (by decide) (by decide) (by decide) (by decide) _ hb6).mono ?_
  rintro e w7 ⟨rfl, k7, n7⟩
  have hb7 : Bud w7 b ⟨3, 100, 1, 20, 2, 90⟩ := k7
  have hn7 := hn6.trans n7
  clear k7 n7
  go_wp2_with fail
  refine (used_true b 1 2 90 _ (Used_1 b ⟨3, 100, 1, 20, 2, 90⟩ (by unfold S.ok; decide) _ hb7)).mono ?_
  rintro e w8 ⟨rfl, n8⟩
  have hb8 : Bud w8 b ⟨3, 100, 1, 20, 2, 90⟩ := BoxA.below hb7 n8
  have hn8 := hn7.tr n8
  clear n8
  go_wp2_with fail
  refine (Change_ok1 b 3 100 1 20 2 90 (by unfold S.ok; decide) 60 (by decide) (by decide) 10 (by decide) (by decide) (by decide) (by decide) _ hb8).mono ?_
  rintro e w9 ⟨rfl, k9, n9⟩
  have hb9 : Bud w9 b ⟨3, 100, 1, 20, 2, 40⟩ := k9
  have hn9 := hn8.trans n9
  clear k9 n9
  go_wp2_with fail
  refine (total_true b 3 60 _ (Total_any b ⟨3, 100, 1, 20, 2, 40⟩ (by unfold S.ok; decide) _ hb9)).mono ?_
  rintro e w10 ⟨rfl, n10⟩
  have hb10 : Bud w10 b ⟨3, 100, 1, 20, 2, 40⟩ := BoxA.below hb9 n10
  have hn10 := hn9.tr n10
  clear n10
  go_wp2_with fail
  refine (over_true b 0 0 _ (Over_any b ⟨3, 100, 1, 20, 2, 40⟩ (by unfold S.ok; decide) _ hb10)).mono ?_
  rintro e w11 ⟨rfl, n11⟩
  have hb11 : Bud w11 b ⟨3, 100, 1, 20, 2, 40⟩ := BoxA.below hb10 n11
  have hn11 := hn10.tr n11
  clear n11
  go_wp2_with fail
  refine (Remove_none0 b 3 100 1 20 2 40 (by unfold S.ok; decide) 21 (by decide) (by decide) (by decide) _ hb11).mono ?_
  rintro e w12 ⟨rfl, n12⟩
  have hb12 : Bud w12 b ⟨3, 100, 1, 20, 2, 40⟩ := BoxA.below hb11 n12
  have hn12 := hn11.tr n12
  clear n12
  go_wp2_with fail
  refine (Remove_none0 b 3 100 1 20 2 40 (by unfold S.ok; decide) 19 (by decide) (by decide) (by decide) _ hb12).mono ?_
  rintro e w13 ⟨rfl, n13⟩
  have hb13 : Bud w13 b ⟨3, 100, 1, 20, 2, 40⟩ := BoxA.below hb12 n13
  have hn13 := hn12.tr n13
  clear n13
  go_wp2_with fail
  refine (Remove_ok0 b 3 100 1 20 2 40 (by unfold S.ok; decide) 20 (by decide) (by decide) (by decide) _ hb13).mono ?_
  rintro e w14 ⟨rfl, k14, n14⟩
  have hb14 : Bud w14 b ⟨3, 100, 0, 0, 2, 40⟩ := k14
  have hn14 := hn13.trans n14
  clear k14 n14
  go_wp2_with fail
  refine (Remove_none0 b 3 100 0 0 2 40 (by unfold S.ok; decide) 0 (by decide) (by decide) (by decide) _ hb14).mono ?_
  rintro e w15 ⟨rfl, n15⟩
  have hb15 : Bud w15 b ⟨3, 100, 0, 0, 2, 40⟩ := BoxA.below hb14 n15
  have hn15 := hn14.tr n15
  clear n15
  go_wp2_with fail
  refine (Set_ok b 3 100 0 0 2 40 (by unfold S.ok; decide) 1 30 (by decide) _ hb15).mono ?_
  rintro e w16 ⟨rfl, k16, n16⟩
  have hb16 : Bud w16 b ⟨1, 30, 0, 0, 2, 40⟩ := k16
  have hn16 := hn15.trans n16
  clear k16 n16
  go_wp2_with fail
  refine (over_true b 1 10 _ (Over_any b ⟨1, 30, 0, 0, 2, 40⟩ (by unfold S.ok; decide) _ hb16)).mono ?_
  rintro e w17 ⟨rfl, n17⟩
  have hb17 : Bud w17 b ⟨1, 30, 0, 0, 2, 40⟩ := BoxA.below hb16 n17
  have hn17 := hn16.tr n17
  clear n17
  go_wp2_with fail
  refine (Part_ok b ⟨1, 30, 0, 0, 2, 40⟩ (by unfold S.ok; decide) 33 (by decide) (by decide) _ hb17).mono ?_
  rintro e wx ⟨rfl, rfl⟩
  go_wp2_with fail
  refine (New_bad 0 1 (by decide) _).mono ?_
  rintro e wx ⟨rfl, rfl⟩
  go_wp2_with fail
  refine (Part_bad b ⟨1, 30, 0, 0, 2, 40⟩ (by unfold S.ok; decide) 101 (by decide) _ hb17).mono ?_
  rintro e wx ⟨rfl, rfl⟩
  go_wp2_with fail
  refine (Set_bad b ⟨1, 30, 0, 0, 2, 40⟩ (by unfold S.ok; decide) 1 1099511627777 (by decide) _ hb17).mono ?_
  rintro e wx ⟨rfl, rfl⟩
  go_wp2_with fail
  refine (Add_bad b ⟨1, 30, 0, 0, 2, 40⟩ (by unfold S.ok; decide) 2 1 (by decide) _ hb17).mono ?_
  rintro e wx ⟨rfl, rfl⟩
  go_wp2_with fail
  refine (Add_bad b ⟨1, 30, 0, 0, 2, 40⟩ (by unfold S.ok; decide) 0 (-1) (by decide) _ hb17).mono ?_
  rintro e wx ⟨rfl, rfl⟩
  go_wp2_with fail
  go_ret
  refine ⟨ret_bool (by decide), ?_⟩
  exact hB0.trans (hn17.below (Nat.le_of_eq HBW.out) hB0.size)
end Go.Proofs.Ytjlfjgmkbjfbcaa.Bud
