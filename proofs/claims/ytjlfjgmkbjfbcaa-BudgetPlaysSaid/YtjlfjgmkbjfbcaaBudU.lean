/-
  Walks over package budget (layer 17): Move, Set, and what is read.
-/
import Derived.Test.YtjlfjgmkbjfbcaaBudV
import Derived.Test.YtjlfjgmkbjfbcaaGate
namespace Go.Proofs.Ytjlfjgmkbjfbcaa.Bud
open Go.RowKit Kit

/-- what holds while no store of Move has come up -/
def MoveS (b O : Nat) (mc mb n0 c0 n1 c1 c : Int) (w W : World) : Prop :=
  (W.cell? ⟨b, 2, none⟩ = some (.int .i64 n0) ∧ W.cell? ⟨b, 3, none⟩ = some (.int .i64 c0) ∧ W.cell? ⟨b, 4, none⟩ = some (.int .i64 n1) ∧ W.cell? ⟨b, 5, none⟩ = some (.int .i64 c1)) ∧
  (W.cell? ⟨O, 0, none⟩ = some (.int .i64 1) ∧ W.cell? ⟨O, 1, none⟩ = some (.int .i64 c)) ∧ (Bud W b ⟨mc, mb, n0, c0, n1, c1⟩ ∧ Bx W O 45 (.int .i64 1) (.int .i64 c) ∧ But b w W)
theorem MoveS.of {b O : Nat} {mc mb n0 c0 n1 c1 c : Int} {w W : World} (hb : Bud W b ⟨mc, mb, n0, c0, n1, c1⟩) (ho : Bx W O 45 (.int .i64 1) (.int .i64 c)) (hn : But b w W) : MoveS b O mc mb n0 c0 n1 c1 c w W :=
  ⟨⟨hb.cs.2.2.1, hb.cs.2.2.2.1, hb.cs.2.2.2.2.1, hb.cs.2.2.2.2.2⟩, ⟨ho.c0, ho.c1⟩, hb, ho, hn⟩
set_option maxHeartbeats 2000000 in
theorem Move_ok0 (b : Nat) (mc mb n0 c0 n1 c1 : Int) (hs : (S.mk mc mb n0 c0 n1 c1).ok) (c : Int) (hc0 : 0 ≤ c) (hc1 : c ≤ 1099511627776) (hfit : n1 + 1 ≤ 2097152 ∧ c1 + c ≤ 2305843009213693952) (hh : hasB n0 c0 c = true) (w : World) (hb : Bud w b ⟨mc, mb, n0, c0, n1, c1⟩) :
    Calls Try.prog 16 #[.pointer (some ⟨b, 0, none⟩), .int .i64 0, .int .i64 c] w fun e w' => e = .returned (.int .i64 0) ∧ Bud w' b ⟨mc, mb, n0 - 1, c0 - c, n1 + 1, c1 + c⟩ ∧ But b w w' := by
  have HH := Lib.hid hh
  have HF := Lib.hid (decide_eq_true hfit)
  have HZ := Lib.hid (isZero_no b _ hs w hb)
  have HC := Lib.hid (decide_eq_true (And.intro hc0 hc1))
  have HB := Lib.hid hb
  obtain ⟨o1, o2, o3, o4, o5, o6, o7, o8, o9, o10, o11, o12⟩ := hs
  simp only at o1 o2 o3 o4 o5 o6 o7 o8 o9 o10 o11 o12
  have HP := Lib.hid (plus_in n1 c1 1 c (by omega) (by omega) (by omega) (by omega))
  have HM := Lib.hid (minus_in n0 c0 1 c (by omega) (by omega) (by omega) (by omega))
  clear hfit hh
  obtain ⟨e0, e1, e2, e3, e4, e5⟩ := hb.cs
  clear hb
  go_enter Try.func16, Try.ntmps16
  go_wp2_with fail
  refine HZ.out.mono ?_
  rintro e w1 ⟨rfl, rfl⟩
  go_wp2_with fail
  refine (isSegment_any 0 _).mono ?_
  rintro e w1 ⟨rfl, rfl⟩
  go_wp2_with fail
  refine (isCost_any c _).mono ?_
  rintro e w1 ⟨rfl, rfl⟩
  rw [HC.out]
  go_wp2_with fail
  refine (HP.out _).mono ?_
  rintro e w1 ⟨rfl, b1⟩
  go_wp2_with fail
  refine (fits_any _ _ _).mono ?_
  rintro e w2 ⟨rfl, b2⟩
  rw [HF.out]
  have b3 := tr b1 b2
  have hb2 := Lib.hid (BoxA.below HB.out b3)
  clear e0 e1 e2 e3 e4 e5
  obtain ⟨e0, e1, e2, e3, e4, e5⟩ := Bud.cs hb2.out
  go_wp2_with fail
  refine (has_any _ _ _ _).mono ?_
  rintro e w4 ⟨rfl, b4⟩
  rw [HH.out]
  have b5 := tr b3 b4
  have hb6 := BoxA.below HB.out b5
  go_wp2_with fail
  have ho7 := Lib.hid (Bx.new w4 45 (.int .i64 1) (.int .i64 c))
  have b7 : Below w.heap.size w (w4.alloc (.cells #[.int .i64 1, .int .i64 c] 45)) := tr b5 (by go_grown)
  have hb7 := Lib.hid (show Bud (w4.alloc (.cells #[.int .i64 1, .int .i64 c] 45)) b _ from BoxA.below hb6 (by go_grown))
  clear e0 e1 e2 e3 e4 e5 hb6
  obtain ⟨e0, e1, e2, e3, e4, e5⟩ := Bud.cs hb7.out
  have j0 := ho7.out.c0
  have j1 := ho7.out.c1
  generalize hW7 : w4.alloc (.cells #[.int .i64 1, .int .i64 c] 45) = w7
  rw [hW7] at ho7 b7 hb7 e0 e1 e2 e3 e4 e5 j0 j1
  clear hW7
  have hS : MoveS b w4.heap.size mc mb n0 c0 n1 c1 c w w7.drew := ⟨⟨e2, e3, e4, e5⟩, ⟨j0, j1⟩, hb7.out, ho7.out, But.of (Below.drew b7)⟩
  have hw0 : IntKind.i64.wrap 0 = 0 := by decide
  have hw1 : IntKind.i64.wrap 1 = 1 := by decide
  refine Gate.begin_gate (MoveS b w4.heap.size mc mb n0 c0 n1 c1 c w) [25, 29] 30 (by kernel_rfl) rfl ?_
  refine' Gate.take_any (i := 0) (v := _) rfl (by kernel_rfl) (by kernel_rfl) (by kernel_rfl) (by kernel_rfl) (fun _ _ _ h => h) (Or.inl ⟨by rfl, ?yld0⟩) hS ?nxt0
  case yld0 =>
    intro W _
    go_simp
    try simp only [hw0, hw1]
    try go_simp
    try with_reducible rfl
  try simp only [Act.put]
  refine' Gate.take_any (i := 1) (v := _) rfl (by kernel_rfl) (by kernel_rfl) (by kernel_rfl) (by kernel_rfl) (fun _ _ _ h => h) (Or.inl ⟨by rfl, ?yld1⟩) hS ?nxt1
  case yld1 =>
    intro W _
    go_simp
    try simp only [hw0, hw1]
    try go_simp
    try with_reducible rfl
  try simp only [Act.put]
  refine' Gate.take_any (i := 2) (v := _) rfl (by kernel_rfl) (by kernel_rfl) (by kernel_rfl) (by kernel_rfl) (fun _ _ _ h => h) (Or.inl ⟨by rfl, ?yld2⟩) hS ?nxt2
  case yld2 =>
    intro W _
    go_simp
    try simp only [hw0, hw1]
    try go_simp
    try with_reducible rfl
  try simp only [Act.put]
  refine' Gate.take_any (i := 3) (v := _) rfl (by kernel_rfl) (by kernel_rfl) (by kernel_rfl) (by kernel_rfl) (fun _ _ _ h => h) (Or.inl ⟨by rfl, ?yld3⟩) hS ?nxt3
  case yld3 =>
    intro W _
    go_simp
    try simp only [hw0, hw1]
    try go_simp
    try with_reducible rfl
  try simp only [Act.put]
  refine' Gate.take_any (i := 4) (v := _) rfl (by kernel_rfl) (by kernel_rfl) (by kernel_rfl) (by kernel_rfl) (fun _ _ _ h => h) (Or.inl ⟨by rfl, ?yld4⟩) hS ?nxt4
  case yld4 =>
    intro W _
    go_simp
    try simp only [hw0, hw1]
    try go_simp
    try with_reducible rfl
  try simp only [Act.put]
  refine' Gate.take_any (i := 5) (v := _) rfl (by kernel_rfl) (by kernel_rfl) (by kernel_rfl) (by kernel_rfl) (fun _ _ _ h => h) (Or.inl ⟨by rfl, ?yld5⟩) hS ?nxt5
  case yld5 =>
    intro W _
    go_simp
    try simp only [hw0, hw1]
    try go_simp
    try with_reducible rfl
  try simp only [Act.put]
  refine' Gate.take_any (i := 6) (v := _) rfl (by kernel_rfl) (by kernel_rfl) (by kernel_rfl) (by kernel_rfl) (fun _ _ _ h => h) (Or.inl ⟨by rfl, ?yld6⟩) hS ?nxt6
  case yld6 =>
    intro W _
    go_simp
    try simp only [hw0, hw1]
    try go_simp
    try with_reducible rfl
  try simp only [Act.put]
  refine' Gate.take_any (i := 7) (v := _) rfl (by kernel_rfl) (by kernel_rfl) (by kernel_rfl) (by kernel_rfl) (fun _ _ _ h => h) (Or.inl ⟨by rfl, ?yld7⟩) hS ?nxt7
  case yld7 =>
    intro W _
    go_simp
    try simp only [hw0, hw1]
    try go_simp
    try with_reducible rfl
  try simp only [Act.put]
  refine' Gate.take_any (i := 8) (v := _) rfl (by kernel_rfl) (by kernel_rfl) (by kernel_rfl) (by kernel_rfl) (fun _ _ _ h => h) (Or.inl ⟨by rfl, ?yld8⟩) hS ?nxt8
  case yld8 =>
    intro W _
    go_simp
    try simp only [hw0, hw1]
    try go_simp
    try with_reducible rfl
  try simp only [Act.put]
  refine' Gate.take_any (i := 9) (v := _) rfl (by kernel_rfl) (by kernel_rfl) (by kernel_rfl) (by kernel_rfl) (fun _ _ _ h => h) (Or.inl ⟨by rfl, ?yld9⟩) hS ?nxt9
  case yld9 =>
    intro W _
    go_simp
    try simp only [hw0, hw1]
    try go_simp
    try with_reducible rfl
  try simp only [Act.put]
  refine' Gate.take_if (i := 10) (v := _) [] rfl (by kernel_rfl) (by kernel_rfl) (by kernel_rfl) (by kernel_rfl) (by kernel_rfl) (by kernel_rfl) (by kernel_rfl) (fun _ _ _ h => h) (Or.inl ⟨by rfl, ?yld10⟩) hS ?nxt10
  case yld10 =>
    rintro W ⟨⟨k2, k3, k4, k5⟩, ⟨j0, j1⟩, _⟩
    go_simp
    try simp only [hw0, hw1]
    try go_simp
    try with_reducible rfl
  try simp only [Act.put]
  refine' Gate.take_if (i := 11) (v := _) [] rfl (by kernel_rfl) (by kernel_rfl) (by kernel_rfl) (by kernel_rfl) (by kernel_rfl) (by kernel_rfl) (by kernel_rfl) (fun _ _ _ h => h) (Or.inl ⟨by rfl, ?yld11⟩) hS ?nxt11
  case yld11 =>
    rintro W ⟨⟨k2, k3, k4, k5⟩, ⟨j0, j1⟩, _⟩
    go_simp
    try simp only [hw0, hw1]
    try go_simp
    try with_reducible rfl
  try simp only [Act.put]
  refine' Gate.take_any (i := 13) (v := _) rfl (by kernel_rfl) (by kernel_rfl) (by kernel_rfl) (by kernel_rfl) (fun _ _ _ h => h) (Or.inl ⟨by rfl, ?yld13⟩) hS ?nxt13
  case yld13 =>
    intro W _
    go_simp
    try simp only [hw0, hw1]
    try go_simp
    try with_reducible rfl
  try simp only [Act.put]
  refine' Gate.take_any (i := 14) (v := _) rfl (by kernel_rfl) (by kernel_rfl) (by kernel_rfl) (by kernel_rfl) (fun _ _ _ h => h) (Or.inl ⟨by rfl, ?yld14⟩) hS ?nxt14
  case yld14 =>
    intro W _
    go_simp
    try simp only [hw0, hw1]
    try go_simp
    try with_reducible rfl
  try simp only [Act.put]
  refine' Gate.take_any (i := 15) (v := _) rfl (by kernel_rfl) (by kernel_rfl) (by kernel_rfl) (by kernel_rfl) (fun _ _ _ h => h) (Or.inl ⟨by rfl, ?yld15⟩) hS ?nxt15
  case yld15 =>
    intro W _
    go_simp
    try simp only [hw0, hw1]
    try go_simp
    try with_reducible rfl
  try simp only [Act.put]
  refine' Gate.take_any (i := 16) (v := _) rfl (by kernel_rfl) (by kernel_rfl) (by kernel_rfl) (by kernel_rfl) (fun _ _ _ h => h) (Or.inl ⟨by rfl, ?yld16⟩) hS ?nxt16
  case yld16 =>
    intro W _
    go_simp
    try simp only [hw0, hw1]
    try go_simp
    try with_reducible rfl
  try simp only [Act.put]
  refine' Gate.take_any (i := 17) (v := _) rfl (by kernel_rfl) (by kernel_rfl) (by kernel_rfl) (by kernel_rfl) (fun _ _ _ h => h) (Or.inl ⟨by rfl, ?yld17⟩) hS ?nxt17
  case yld17 =>
    intro W _
    go_simp
    try simp only [hw0, hw1]
    try go_simp
    try with_reducible rfl
  try simp only [Act.put]
  refine' Gate.take_any (i := 18) (v := _) rfl (by kernel_rfl) (by kernel_rfl) (by kernel_rfl) (by kernel_rfl) (fun _ _ _ h => h) (Or.inl ⟨by rfl, ?yld18⟩) hS ?nxt18
  case yld18 =>
    intro W _
    go_simp
    try simp only [hw0, hw1]
    try go_simp
    try with_reducible rfl
  try simp only [Act.put]
  refine' Gate.take_if (i := 19) (v := _) [21] rfl (by kernel_rfl) (by kernel_rfl) (by kernel_rfl) (by kernel_rfl) (by kernel_rfl) (by kernel_rfl) (by kernel_rfl) (fun _ _ _ h => h) (Or.inl ⟨by rfl, ?yld19⟩) hS ?nxt19
  case yld19 =>
    rintro W ⟨⟨k2, k3, k4, k5⟩, ⟨j0, j1⟩, _⟩
    go_simp
    try simp only [hw0, hw1]
    try go_simp
    try with_reducible rfl
  try simp only [Act.put]
  refine' Gate.take_if (i := 20) (v := _) [21] rfl (by kernel_rfl) (by kernel_rfl) (by kernel_rfl) (by kernel_rfl) (by kernel_rfl) (by kernel_rfl) (by kernel_rfl) (fun _ _ _ h => h) (Or.inl ⟨by rfl, ?yld20⟩) hS ?nxt20
  case yld20 =>
    rintro W ⟨⟨k2, k3, k4, k5⟩, ⟨j0, j1⟩, _⟩
    go_simp
    try simp only [hw0, hw1]
    try go_simp
    try with_reducible rfl
  try simp only [Act.put]
  refine' Gate.take_any (i := 22) (v := _) rfl (by kernel_rfl) (by kernel_rfl) (by kernel_rfl) (by kernel_rfl) (fun _ _ _ h => h) (Or.inl ⟨by rfl, ?yld22⟩) hS ?nxt22
  case yld22 =>
    intro W _
    go_simp
    try simp only [hw0, hw1]
    try go_simp
    try with_reducible rfl
  try simp only [Act.put]
  refine' Gate.take_any (i := 23) (v := _) rfl (by kernel_rfl) (by kernel_rfl) (by kernel_rfl) (by kernel_rfl) (fun _ _ _ h => h) (Or.inl ⟨by rfl, ?yld23⟩) hS ?nxt23
  case yld23 =>
    intro W _
    go_simp
    try simp only [hw0, hw1]
    try go_simp
    try with_reducible rfl
  try simp only [Act.put]
  refine' Gate.take_any (i := 26) (v := _) rfl (by kernel_rfl) (by kernel_rfl) (by kernel_rfl) (by kernel_rfl) (fun _ _ _ h => h) (Or.inl ⟨by rfl, ?yld26⟩) hS ?nxt26
  case yld26 =>
    intro W _
    go_simp
    try simp only [hw0, hw1]
    try go_simp
    try with_reducible rfl
  try simp only [Act.put]
  refine' Gate.take_any (i := 27) (v := _) rfl (by kernel_rfl) (by kernel_rfl) (by kernel_rfl) (by kernel_rfl) (fun _ _ _ h => h) (Or.inl ⟨by rfl, ?yld27⟩) hS ?nxt27
  case yld27 =>
    intro W _
    go_simp
    try simp only [hw0, hw1]
    try go_simp
    try with_reducible rfl
  try simp only [Act.put]
  refine Gate.one_gate (i := 12) (by kernel_rfl) ?cal12
  refine Gate.step_gate rfl (fun K hK => ?_)
  rw [if_pos (by rfl)]
  go_simp
  refine (HM.out _).mono ?_
  rintro e w8 ⟨rfl, q12⟩
  have hb8 : Bud w8 b _ := (q12.block b (BoxA.lt hb7.out)).trans hb7.out
  have ho8 : Bx w8 w4.heap.size _ _ _ := (q12.block _ (Bx.lt ho7.out)).trans ho7.out
  have hn8 : But b w w8 := (But.of (Below.drew b7)).trans (But.of q12)
  have hS := MoveS.of hb8 ho8 hn8
  dsimp only
  refine hK _ _ (fun _ => hS) ?_
  clear hK K
  try simp only [Act.put]
  refine Gate.one_gate (i := 21) (by kernel_rfl) ?cal21
  refine Gate.step_gate rfl (fun K hK => ?_)
  rw [if_pos (by rfl)]
  go_simp
  refine (HP.out _).mono ?_
  rintro e w9 ⟨rfl, q21⟩
  have hb9 : Bud w9 b _ := (q21.block b (BoxA.lt hb8)).trans hb8
  have ho9 : Bx w9 w4.heap.size _ _ _ := (q21.block _ (Bx.lt ho8)).trans ho8
  have hn9 : But b w w9 := hn8.trans (But.of q21)
  have hS := MoveS.of hb9 ho9 hn9
  dsimp only
  refine hK _ _ (fun _ => hS) ?_
  clear hK K
  try simp only [Act.put]
  refine' Gate.take_any (i := 24) (v := _) rfl (by kernel_rfl) (by kernel_rfl) (by kernel_rfl) (by kernel_rfl) (fun _ _ _ h => h) (Or.inl ⟨by rfl, ?yld24⟩) hS ?nxt24
  case yld24 =>
    intro W _
    go_simp
    try simp only [hw0, hw1]
    try go_simp
    try with_reducible rfl
  try simp only [Act.put]
  obtain ⟨-, -, k2, k3, k4, k5⟩ := Bud.cs hb9
  have g2 := BoxA.frozen hb9 2
  have g3 := BoxA.frozen hb9 3
  have g4 := BoxA.frozen hb9 4
  have g5 := BoxA.frozen hb9 5
  refine Gate.one_gate (i := 25) (by kernel_rfl) ?sto25
  refine Gate.step_gate rfl (fun K hK => ?_)
  rw [if_pos (by rfl)]
  go_simp
  refine hK _ _ (fun h => absurd (h.symm.trans (by kernel_rfl : _ = false)) (by decide)) ?_
  clear hK K
  try simp only [Act.put]
  refine Gate.one_gate (i := 28) (by kernel_rfl) ?sto28
  refine Gate.step_gate rfl (fun K hK => ?_)
  rw [if_pos (by rfl)]
  go_simp
  try simp only [hw0, hw1]
  try go_simp
  refine hK _ _ (fun h => absurd (h.symm.trans (by kernel_rfl : _ = false)) (by decide)) ?_
  clear hK K
  try simp only [Act.put]
  refine Gate.one_gate (i := 29) (by kernel_rfl) ?sto29
  refine Gate.step_gate rfl (fun K hK => ?_)
  rw [if_pos (by rfl)]
  go_simp
  refine hK _ _ (fun h => absurd (h.symm.trans (by kernel_rfl : _ = false)) (by decide)) ?_
  clear hK K
  try simp only [Act.put]
  refine Gate.done_gate (by kernel_rfl) ?_ _
  go_wp2_with fail
  go_ret
  exact ⟨rfl, (hb9.set0 _ _).set1 _ _, (((hn9.setCell _).setCell _).setCell _).setCell _⟩
set_option maxHeartbeats 2000000 in
theorem Move_none0 (b : Nat) (mc mb n0 c0 n1 c1 : Int) (hs : (S.mk mc mb n0 c0 n1 c1).ok) (c : Int) (hc0 : 0 ≤ c) (hc1 : c ≤ 1099511627776) (hfit : n1 + 1 ≤ 2097152 ∧ c1 + c ≤ 2305843009213693952) (hh : hasB n0 c0 c = false) (w : World) (hb : Bud w b ⟨mc, mb, n0, c0, n1, c1⟩) :
    Calls Try.prog 16 #[.pointer (some ⟨b, 0, none⟩), .int .i64 0, .int .i64 c] w fun e w' => e = .returned (.int .i64 9) ∧ Below w.heap.size w w' := by
  have HH := Lib.hid hh
  have HF := Lib.hid (decide_eq_true hfit)
  have HZ := Lib.hid (isZero_no b _ hs w hb)
  have HC := Lib.hid (decide_eq_true (And.intro hc0 hc1))
  have HB := Lib.hid hb
  obtain ⟨o1, o2, o3, o4, o5, o6, o7, o8, o9, o10, o11, o12⟩ := hs
  simp only at o1 o2 o3 o4 o5 o6 o7 o8 o9 o10 o11 o12
  have HP := Lib.hid (plus_in n1 c1 1 c (by omega) (by omega) (by omega) (by omega))
  have HM := Lib.hid (minus_in n0 c0 1 c (by omega) (by omega) (by omega) (by omega))
  clear hfit hh
  obtain ⟨e0, e1, e2, e3, e4, e5⟩ := hb.cs
  clear hb
  go_enter Try.func16, Try.ntmps16
  go_wp2_with fail
  refine HZ.out.mono ?_
  rintro e w1 ⟨rfl, rfl⟩
  go_wp2_with fail
  refine (isSegment_any 0 _).mono ?_
  rintro e w1 ⟨rfl, rfl⟩
  go_wp2_with fail
  refine (isCost_any c _).mono ?_
  rintro e w1 ⟨rfl, rfl⟩
  rw [HC.out]
  go_wp2_with fail
  refine (HP.out _).mono ?_
  rintro e w1 ⟨rfl, b1⟩
  go_wp2_with fail
  refine (fits_any _ _ _).mono ?_
  rintro e w2 ⟨rfl, b2⟩
  rw [HF.out]
  have b3 := tr b1 b2
  have hb2 := Lib.hid (BoxA.below HB.out b3)
  clear e0 e1 e2 e3 e4 e5
  obtain ⟨e0, e1, e2, e3, e4, e5⟩ := Bud.cs hb2.out
  go_wp2_with fail
  refine (has_any _ _ _ _).mono ?_
  rintro e w4 ⟨rfl, b4⟩
  rw [HH.out]
  have b5 := tr b3 b4
  go_wp2_with fail
  go_ret
  exact ⟨rfl, b5⟩
set_option maxHeartbeats 2000000 in
theorem Move_ok1 (b : Nat) (mc mb n0 c0 n1 c1 : Int) (hs : (S.mk mc mb n0 c0 n1 c1).ok) (c : Int) (hc0 : 0 ≤ c) (hc1 : c ≤ 1099511627776) (hfit : n0 + 1 ≤ 2097152 ∧ c0 + c ≤ 2305843009213693952) (hh : hasB n1 c1 c = true) (w : World) (hb : Bud w b ⟨mc, mb, n0, c0, n1, c1⟩) :
    Calls Try.prog 16 #[.pointer (some ⟨b, 0, none⟩), .int .i64 1, .int .i64 c] w fun e w' => e = .returned (.int .i64 0) ∧ Bud w' b ⟨mc, mb, n0 + 1, c0 + c, n1 - 1, c1 - c⟩ ∧ But b w w' := by
  have HH := Lib.hid hh
  have HF := Lib.hid (decide_eq_true hfit)
  have HZ := Lib.hid (isZero_no b _ hs w hb)
  have HC := Lib.hid (decide_eq_true (And.intro hc0 hc1))
  have HB := Lib.hid hb
  obtain ⟨o1, o2, o3, o4, o5, o6, o7, o8, o9, o10, o11, o12⟩ := hs
  simp only at o1 o2 o3 o4 o5 o6 o7 o8 o9 o10 o11 o12
  have HP := Lib.hid (plus_in n0 c0 1 c (by omega) (by omega) (by omega) (by omega))
  have HM := Lib.hid (minus_in n1 c1 1 c (by omega) (by omega) (by omega) (by omega))
  clear hfit hh
  obtain ⟨e0, e1, e2, e3, e4, e5⟩ := hb.cs
  clear hb
  go_enter Try.func16, Try.ntmps16
  go_wp2_with fail
  refine HZ.out.mono ?_
  rintro e w1 ⟨rfl, rfl⟩
  go_wp2_with fail
  refine (isSegment_any 1 _).mono ?_
  rintro e w1 ⟨rfl, rfl⟩
  go_wp2_with fail
  refine (isCost_any c _).mono ?_
  rintro e w1 ⟨rfl, rfl⟩
  rw [HC.out]
  go_wp2_with fail
  refine (HP.out _).mono ?_
  rintro e w1 ⟨rfl, b1⟩
  go_wp2_with fail
  refine (fits_any _ _ _).mono ?_
  rintro e w2 ⟨rfl, b2⟩
  rw [HF.out]
  have b3 := tr b1 b2
  have hb2 := Lib.hid (BoxA.below HB.out b3)
  clear e0 e1 e2 e3 e4 e5
  obtain ⟨e0, e1, e2, e3, e4, e5⟩ := Bud.cs hb2.out
  go_wp2_with fail
  refine (has_any _ _ _ _).mono ?_
  rintro e w4 ⟨rfl, b4⟩
  rw [HH.out]
  have b5 := tr b3 b4
  have hb6 := BoxA.below HB.out b5
  go_wp2_with fail
  have ho7 := Lib.hid (Bx.new w4 45 (.int .i64 1) (.int .i64 c))
  have b7 : Below w.heap.size w (w4.alloc (.cells #[.int .i64 1, .int .i64 c] 45)) := tr b5 (by go_grown)
  have hb7 := Lib.hid (show Bud (w4.alloc (.cells #[.int .i64 1, .int .i64 c] 45)) b _ from BoxA.below hb6 (by go_grown))
  clear e0 e1 e2 e3 e4 e5 hb6
  obtain ⟨e0, e1, e2, e3, e4, e5⟩ := Bud.cs hb7.out
  have j0 := ho7.out.c0
  have j1 := ho7.out.c1
  generalize hW7 : w4.alloc (.cells #[.int .i64 1, .int .i64 c] 45) = w7
  rw [hW7] at ho7 b7 hb7 e0 e1 e2 e3 e4 e5 j0 j1
  clear hW7
  have hS : MoveS b w4.heap.size mc mb n0 c0 n1 c1 c w w7.drew := ⟨⟨e2, e3, e4, e5⟩, ⟨j0, j1⟩, hb7.out, ho7.out, But.of (Below.drew b7)⟩
  have hw0 : IntKind.i64.wrap 0 = 0 := by decide
  have hw1 : IntKind.i64.wrap 1 = 1 := by decide
  refine Gate.begin_gate (MoveS b w4.heap.size mc mb n0 c0 n1 c1 c w) [25, 29] 30 (by kernel_rfl) rfl ?_
  refine' Gate.take_any (i := 0) (v := _) rfl (by kernel_rfl) (by kernel_rfl) (by kernel_rfl) (by kernel_rfl) (fun _ _ _ h => h) (Or.inl ⟨by rfl, ?yld0⟩) hS ?nxt0
  case yld0 =>
    intro W _
    go_simp
    try simp only [hw0, hw1]
    try go_simp
    try with_reducible rfl
  try simp only [Act.put]
  refine' Gate.take_any (i := 1) (v := _) rfl (by kernel_rfl) (by kernel_rfl) (by kernel_rfl) (by kernel_rfl) (fun _ _ _ h => h) (Or.inl ⟨by rfl, ?yld1⟩) hS ?nxt1
  case yld1 =>
    intro W _
    go_simp
    try simp only [hw0, hw1]
    try go_simp
    try with_reducible rfl
  try simp only [Act.put]
  refine' Gate.take_any (i := 2) (v := _) rfl (by kernel_rfl) (by kernel_rfl) (by kernel_rfl) (by kernel_rfl) (fun _ _ _ h => h) (Or.inl ⟨by rfl, ?yld2⟩) hS ?nxt2
  case yld2 =>
    intro W _
    go_simp
    try simp only [hw0, hw1]
    try go_simp
    try with_reducible rfl
  try simp only [Act.put]
  refine' Gate.take_any (i := 3) (v := _) rfl (by kernel_rfl) (by kernel_rfl) (by kernel_rfl) (by kernel_rfl) (fun _ _ _ h => h) (Or.inl ⟨by rfl, ?yld3⟩) hS ?nxt3
  case yld3 =>
    intro W _
    go_simp
    try simp only [hw0, hw1]
    try go_simp
    try with_reducible rfl
  try simp only [Act.put]
  refine' Gate.take_any (i := 4) (v := _) rfl (by kernel_rfl) (by kernel_rfl) (by kernel_rfl) (by kernel_rfl) (fun _ _ _ h => h) (Or.inl ⟨by rfl, ?yld4⟩) hS ?nxt4
  case yld4 =>
    intro W _
    go_simp
    try simp only [hw0, hw1]
    try go_simp
    try with_reducible rfl
  try simp only [Act.put]
  refine' Gate.take_any (i := 5) (v := _) rfl (by kernel_rfl) (by kernel_rfl) (by kernel_rfl) (by kernel_rfl) (fun _ _ _ h => h) (Or.inl ⟨by rfl, ?yld5⟩) hS ?nxt5
  case yld5 =>
    intro W _
    go_simp
    try simp only [hw0, hw1]
    try go_simp
    try with_reducible rfl
  try simp only [Act.put]
  refine' Gate.take_any (i := 6) (v := _) rfl (by kernel_rfl) (by kernel_rfl) (by kernel_rfl) (by kernel_rfl) (fun _ _ _ h => h) (Or.inl ⟨by rfl, ?yld6⟩) hS ?nxt6
  case yld6 =>
    intro W _
    go_simp
    try simp only [hw0, hw1]
    try go_simp
    try with_reducible rfl
  try simp only [Act.put]
  refine' Gate.take_any (i := 7) (v := _) rfl (by kernel_rfl) (by kernel_rfl) (by kernel_rfl) (by kernel_rfl) (fun _ _ _ h => h) (Or.inl ⟨by rfl, ?yld7⟩) hS ?nxt7
  case yld7 =>
    intro W _
    go_simp
    try simp only [hw0, hw1]
    try go_simp
    try with_reducible rfl
  try simp only [Act.put]
  refine' Gate.take_any (i := 8) (v := _) rfl (by kernel_rfl) (by kernel_rfl) (by kernel_rfl) (by kernel_rfl) (fun _ _ _ h => h) (Or.inl ⟨by rfl, ?yld8⟩) hS ?nxt8
  case yld8 =>
    intro W _
    go_simp
    try simp only [hw0, hw1]
    try go_simp
    try with_reducible rfl
  try simp only [Act.put]
  refine' Gate.take_any (i := 9) (v := _) rfl (by kernel_rfl) (by kernel_rfl) (by kernel_rfl) (by kernel_rfl) (fun _ _ _ h => h) (Or.inl ⟨by rfl, ?yld9⟩) hS ?nxt9
  case yld9 =>
    intro W _
    go_simp
    try simp only [hw0, hw1]
    try go_simp
    try with_reducible rfl
  try simp only [Act.put]
  refine' Gate.take_if (i := 10) (v := _) [] rfl (by kernel_rfl) (by kernel_rfl) (by kernel_rfl) (by kernel_rfl) (by kernel_rfl) (by kernel_rfl) (by kernel_rfl) (fun _ _ _ h => h) (Or.inl ⟨by rfl, ?yld10⟩) hS ?nxt10
  case yld10 =>
    rintro W ⟨⟨k2, k3, k4, k5⟩, ⟨j0, j1⟩, _⟩
    go_simp
    try simp only [hw0, hw1]
    try go_simp
    try with_reducible rfl
  try simp only [Act.put]
  refine' Gate.take_if (i := 11) (v := _) [] rfl (by kernel_rfl) (by kernel_rfl) (by kernel_rfl) (by kernel_rfl) (by kernel_rfl) (by kernel_rfl) (by kernel_rfl) (fun _ _ _ h => h) (Or.inl ⟨by rfl, ?yld11⟩) hS ?nxt11
  case yld11 =>
    rintro W ⟨⟨k2, k3, k4, k5⟩, ⟨j0, j1⟩, _⟩
    go_simp
    try simp only [hw0, hw1]
    try go_simp
    try with_reducible rfl
  try simp only [Act.put]
  refine' Gate.take_any (i := 13) (v := _) rfl (by kernel_rfl) (by kernel_rfl) (by kernel_rfl) (by kernel_rfl) (fun _ _ _ h => h) (Or.inl ⟨by rfl, ?yld13⟩) hS ?nxt13
  case yld13 =>
    intro W _
    go_simp
    try simp only [hw0, hw1]
    try go_simp
    try with_reducible rfl
  try simp only [Act.put]
  refine' Gate.take_any (i := 14) (v := _) rfl (by kernel_rfl) (by kernel_rfl) (by kernel_rfl) (by kernel_rfl) (fun _ _ _ h => h) (Or.inl ⟨by rfl, ?yld14⟩) hS ?nxt14
  case yld14 =>
    intro W _
    go_simp
    try simp only [hw0, hw1]
    try go_simp
    try with_reducible rfl
  try simp only [Act.put]
  refine' Gate.take_any (i := 15) (v := _) rfl (by kernel_rfl) (by kernel_rfl) (by kernel_rfl) (by kernel_rfl) (fun _ _ _ h => h) (Or.inl ⟨by rfl, ?yld15⟩) hS ?nxt15
  case yld15 =>
    intro W _
    go_simp
    try simp only [hw0, hw1]
    try go_simp
    try with_reducible rfl
  try simp only [Act.put]
  refine' Gate.take_any (i := 16) (v := _) rfl (by kernel_rfl) (by kernel_rfl) (by kernel_rfl) (by kernel_rfl) (fun _ _ _ h => h) (Or.inl ⟨by rfl, ?yld16⟩) hS ?nxt16
  case yld16 =>
    intro W _
    go_simp
    try simp only [hw0, hw1]
    try go_simp
    try with_reducible rfl
  try simp only [Act.put]
  refine' Gate.take_any (i := 17) (v := _) rfl (by kernel_rfl) (by kernel_rfl) (by kernel_rfl) (by kernel_rfl) (fun _ _ _ h => h) (Or.inl ⟨by rfl, ?yld17⟩) hS ?nxt17
  case yld17 =>
    intro W _
    go_simp
    try simp only [hw0, hw1]
    try go_simp
    try with_reducible rfl
  try simp only [Act.put]
  refine' Gate.take_any (i := 18) (v := _) rfl (by kernel_rfl) (by kernel_rfl) (by kernel_rfl) (by kernel_rfl) (fun _ _ _ h => h) (Or.inl ⟨by rfl, ?yld18⟩) hS ?nxt18
  case yld18 =>
    intro W _
    go_simp
    try simp only [hw0, hw1]
    try go_simp
    try with_reducible rfl
  try simp only [Act.put]
  refine' Gate.take_if (i := 19) (v := _) [21] rfl (by kernel_rfl) (by kernel_rfl) (by kernel_rfl) (by kernel_rfl) (by kernel_rfl) (by kernel_rfl) (by kernel_rfl) (fun _ _ _ h => h) (Or.inl ⟨by rfl, ?yld19⟩) hS ?nxt19
  case yld19 =>
    rintro W ⟨⟨k2, k3, k4, k5⟩, ⟨j0, j1⟩, _⟩
    go_simp
    try simp only [hw0, hw1]
    try go_simp
    try with_reducible rfl
  try simp only [Act.put]
  refine' Gate.take_if (i := 20) (v := _) [21] rfl (by kernel_rfl) (by kernel_rfl) (by kernel_rfl) (by kernel_rfl) (by kernel_rfl) (by kernel_rfl) (by kernel_rfl) (fun _ _ _ h => h) (Or.inl ⟨by rfl, ?yld20⟩) hS ?nxt20
  case yld20 =>
    rintro W ⟨⟨k2, k3, k4, k5⟩, ⟨j0, j1⟩, _⟩
    go_simp
    try simp only [hw0, hw1]
    try go_simp
    try with_reducible rfl
  try simp only [Act.put]
  refine' Gate.take_any (i := 22) (v := _) rfl (by kernel_rfl) (by kernel_rfl) (by kernel_rfl) (by kernel_rfl) (fun _ _ _ h => h) (Or.inl ⟨by rfl, ?yld22⟩) hS ?nxt22
  case yld22 =>
    intro W _
    go_simp
    try simp only [hw0, hw1]
    try go_simp
    try with_reducible rfl
  try simp only [Act.put]
  refine' Gate.take_any (i := 23) (v := _) rfl (by kernel_rfl) (by kernel_rfl) (by kernel_rfl) (by kernel_rfl) (fun _ _ _ h => h) (Or.inl ⟨by rfl, ?yld23⟩) hS ?nxt23
  case yld23 =>
    intro W _
    go_simp
    try simp only [hw0, hw1]
    try go_simp
    try with_reducible rfl
  try simp only [Act.put]
  refine' Gate.take_any (i := 26) (v := _) rfl (by kernel_rfl) (by kernel_rfl) (by kernel_rfl) (by kernel_rfl) (fun _ _ _ h => h) (Or.inl ⟨by rfl, ?yld26⟩) hS ?nxt26
  case yld26 =>
    intro W _
    go_simp
    try simp only [hw0, hw1]
    try go_simp
    try with_reducible rfl
  try simp only [Act.put]
  refine' Gate.take_any (i := 27) (v := _) rfl (by kernel_rfl) (by kernel_rfl) (by kernel_rfl) (by kernel_rfl) (fun _ _ _ h => h) (Or.inl ⟨by rfl, ?yld27⟩) hS ?nxt27
  case yld27 =>
    intro W _
    go_simp
    try simp only [hw0, hw1]
    try go_simp
    try with_reducible rfl
  try simp only [Act.put]
  refine Gate.one_gate (i := 12) (by kernel_rfl) ?cal12
  refine Gate.step_gate rfl (fun K hK => ?_)
  rw [if_pos (by rfl)]
  go_simp
  refine (HM.out _).mono ?_
  rintro e w8 ⟨rfl, q12⟩
  have hb8 : Bud w8 b _ := (q12.block b (BoxA.lt hb7.out)).trans hb7.out
  have ho8 : Bx w8 w4.heap.size _ _ _ := (q12.block _ (Bx.lt ho7.out)).trans ho7.out
  have hn8 : But b w w8 := (But.of (Below.drew b7)).trans (But.of q12)
  have hS := MoveS.of hb8 ho8 hn8
  dsimp only
  refine hK _ _ (fun _ => hS) ?_
  clear hK K
  try simp only [Act.put]
  refine Gate.one_gate (i := 21) (by kernel_rfl) ?cal21
  refine Gate.step_gate rfl (fun K hK => ?_)
  rw [if_pos (by rfl)]
  go_simp
  refine (HP.out _).mono ?_
  rintro e w9 ⟨rfl, q21⟩
  have hb9 : Bud w9 b _ := (q21.block b (BoxA.lt hb8)).trans hb8
  have ho9 : Bx w9 w4.heap.size _ _ _ := (q21.block _ (Bx.lt ho8)).trans ho8
  have hn9 : But b w w9 := hn8.trans (But.of q21)
  have hS := MoveS.of hb9 ho9 hn9
  dsimp only
  refine hK _ _ (fun _ => hS) ?_
  clear hK K
  try simp only [Act.put]
  refine' Gate.take_any (i := 24) (v := _) rfl (by kernel_rfl) (by kernel_rfl) (by kernel_rfl) (by kernel_rfl) (fun _ _ _ h => h) (Or.inl ⟨by rfl, ?yld24⟩) hS ?nxt24
  case yld24 =>
    intro W _
    go_simp
    try simp only [hw0, hw1]
    try go_simp
    try with_reducible rfl
  try simp only [Act.put]
  obtain ⟨-, -, k2, k3, k4, k5⟩ := Bud.cs hb9
  have g2 := BoxA.frozen hb9 2
  have g3 := BoxA.frozen hb9 3
  have g4 := BoxA.frozen hb9 4
  have g5 := BoxA.frozen hb9 5
  refine Gate.one_gate (i := 25) (by kernel_rfl) ?sto25
  refine Gate.step_gate rfl (fun K hK => ?_)
  rw [if_pos (by rfl)]
  go_simp
  refine hK _ _ (fun h => absurd (h.symm.trans (by kernel_rfl : _ = false)) (by decide)) ?_
  clear hK K
  try simp only [Act.put]
  refine Gate.one_gate (i := 28) (by kernel_rfl) ?sto28
  refine Gate.step_gate rfl (fun K hK => ?_)
  rw [if_pos (by rfl)]
  go_simp
  try simp only [hw0, hw1]
  try go_simp
  refine hK _ _ (fun h => absurd (h.symm.trans (by kernel_rfl : _ = false)) (by decide)) ?_
  clear hK K
  try simp only [Act.put]
  refine Gate.one_gate (i := 29) (by kernel_rfl) ?sto29
  refine Gate.step_gate rfl (fun K hK => ?_)
  rw [if_pos (by rfl)]
  go_simp
  refine hK _ _ (fun h => absurd (h.symm.trans (by kernel_rfl : _ = false)) (by decide)) ?_
  clear hK K
  try simp only [Act.put]
  refine Gate.done_gate (by kernel_rfl) ?_ _
  go_wp2_with fail
  go_ret
  exact ⟨rfl, (hb9.set1 _ _).set0 _ _, (((hn9.setCell _).setCell _).setCell _).setCell _⟩
set_option maxHeartbeats 2000000 in
theorem Move_none1 (b : Nat) (mc mb n0 c0 n1 c1 : Int) (hs : (S.mk mc mb n0 c0 n1 c1).ok) (c : Int) (hc0 : 0 ≤ c) (hc1 : c ≤ 1099511627776) (hfit : n0 + 1 ≤ 2097152 ∧ c0 + c ≤ 2305843009213693952) (hh : hasB n1 c1 c = false) (w : World) (hb : Bud w b ⟨mc, mb, n0, c0, n1, c1⟩) :
    Calls Try.prog 16 #[.pointer (some ⟨b, 0, none⟩), .int .i64 1, .int .i64 c] w fun e w' => e = .returned (.int .i64 9) ∧ Below w.heap.size w w' := by
  have HH := Lib.hid hh
  have HF := Lib.hid (decide_eq_true hfit)
  have HZ := Lib.hid (isZero_no b _ hs w hb)
  have HC := Lib.hid (decide_eq_true (And.intro hc0 hc1))
  have HB := Lib.hid hb
  obtain ⟨o1, o2, o3, o4, o5, o6, o7, o8, o9, o10, o11, o12⟩ := hs
  simp only at o1 o2 o3 o4 o5 o6 o7 o8 o9 o10 o11 o12
  have HP := Lib.hid (plus_in n0 c0 1 c (by omega) (by omega) (by omega) (by omega))
  have HM := Lib.hid (minus_in n1 c1 1 c (by omega) (by omega) (by omega) (by omega))
  clear hfit hh
  obtain ⟨e0, e1, e2, e3, e4, e5⟩ := hb.cs
  clear hb
  go_enter Try.func16, Try.ntmps16
  go_wp2_with fail
  refine HZ.out.mono ?_
  rintro e w1 ⟨rfl, rfl⟩
  go_wp2_with fail
  refine (isSegment_any 1 _).mono ?_
  rintro e w1 ⟨rfl, rfl⟩
  go_wp2_with fail
  refine (isCost_any c _).mono ?_
  rintro e w1 ⟨rfl, rfl⟩
  rw [HC.out]
  go_wp2_with fail
  refine (HP.out _).mono ?_
  rintro e w1 ⟨rfl, b1⟩
  go_wp2_with fail
  refine (fits_any _ _ _).mono ?_
  rintro e w2 ⟨rfl, b2⟩
  rw [HF.out]
  have b3 := tr b1 b2
  have hb2 := Lib.hid (BoxA.below HB.out b3)
  clear e0 e1 e2 e3 e4 e5
  obtain ⟨e0, e1, e2, e3, e4, e5⟩ := Bud.cs hb2.out
  go_wp2_with fail
  refine (has_any _ _ _ _).mono ?_
  rintro e w4 ⟨rfl, b4⟩
  rw [HH.out]
  have b5 := tr b3 b4
  go_wp2_with fail
  go_ret
  exact ⟨rfl, b5⟩
end Go.Proofs.Ytjlfjgmkbjfbcaa.Bud
