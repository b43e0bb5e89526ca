/-
  Plain LRU lists (layer 15): LruLast, its walk.
-/
import Derived.Test.YtajkcockeccdoaaLruK
set_option linter.unusedVariables false
set_option linter.unusedSimpArgs false
namespace Go.Proofs.Ytajkcockeccdoaa.Lru
open Go Go.RowKit Kit Go.Shelf Lnk
set_option maxRecDepth 100000 in
set_option maxHeartbeats 4000000 in
theorem llast_walk (w : World) (a : Int) (s : Nat) (ha : -3 ≤ a ∧ a ≤ 3) (hs : (s : Int) = 4194304 - a) {m2 m3 m4 : List Nat} {z2 z3 z4 : Int} {n2 n3 n4 : Nat}
    (h2 : addL [3] s = m2) (e2 : addC [3] s = z2) (k2 : m2.length = n2) (g2 : n2 ≤ 5000) (b2 : ∀ y ∈ m2, y < 4194304) (d2 : m2.Nodup)
    (h3 : useL m2 3 = m3) (e3 : remC m2 3 = z3) (k3 : m3.length = n3) (g3 : n3 ≤ 5000) (b3 : ∀ y ∈ m3, y < 4194304)
    (h4 : m3.erase s = m4) (e4 : remC m3 s = z4) (k4 : m4.length = n4) (g4 : n4 ≤ 5000) :
    Calls Try.prog 11 #[.int .i64 a] w fun e w' => e = .returned (.bool true) ∧ Below w.heap.size w w' := by
  have hN := Lib.hid (Lst.new w)
  have hsl : s < 4294967296 := by omega
  have hsl' := Lib.hid hsl
  have wa : IntKind.i64.wrap (4194304 - a) = (s : Int) := by have := IntWalk.i64_in (4194304 - a) (by omega); omega
  have wb : IntKind.u32.wrap (s : Int) = (s : Int) := IntWalk.u32_in (s : Int) (by omega)
  have c1 : ¬ a < -3 := by omega
  have c2 : ¬ 3 < a := by omega
  have H2 := Lib.hid (show addL [3] s = m2 ∧ addC [3] s = z2 ∧ m2.length = n2 ∧ n2 ≤ 5000 ∧ (∀ y ∈ m2, y < 4194304) ∧ m2.Nodup from ⟨h2, e2, k2, g2, b2, d2⟩)
  have H3 := Lib.hid (show useL m2 3 = m3 ∧ remC m2 3 = z3 ∧ m3.length = n3 ∧ n3 ≤ 5000 ∧ (∀ y ∈ m3, y < 4194304) from ⟨h3, e3, k3, g3, b3⟩)
  have H4 := Lib.hid (show m3.erase s = m4 ∧ remC m3 s = z4 ∧ m4.length = n4 ∧ n4 ≤ 5000 from ⟨h4, e4, k4, g4⟩)
  obtain ⟨z, hz⟩ : ∃ z : Int, (s : Int) = z := ⟨_, rfl⟩
  have HZ := Lib.hid hz
  rw [hz] at wa wb
  clear h2 e2 k2 g2 b2 d2 h3 e3 k3 g3 b3 h4 e4 k4 g4 hs hsl hz ha
  go_enter Try.func11, Try.ntmps11
  go_wp2_with fail
  refine hN.out.mono ?_
  rintro e w1 ⟨o, rfl, K1⟩
  go_wp2_with fail
  refine (Lst.add K1 3 0 [3] (by decide) (by decide) (by decide)).mono ?_
  rintro e w2 ⟨rfl, K2⟩
  clear K1
  go_wp2_with fail
  refine (Lst.radd K2 0 0 3 0 [3] 1 rfl (by decide) (by decide) (by decide) (by decide) (by decide) rfl).mono ?_
  rintro e w3 ⟨p1, c1, rfl, K3, l3⟩
  have L3 := Lib.hid l3
  clear K2 l3
  go_wp2_with fail
  rw [← HZ.out]
  refine (Lst.radd K3 1 c1 s z2 m2 n2 rfl (by decide) L3.out hsl'.out H2.out.2.1 H2.out.1 H2.out.2.2.1).mono ?_
  rintro e w4 ⟨p2, cc2, rfl, K4, l4⟩
  rw [HZ.out]
  have L4 := Lib.hid l4
  clear K3 l4
  go_wp2_with fail
  rw [← HZ.out]
  refine (Lst.add K4 s z2 m2 hsl'.out H2.out.2.1 H2.out.1).mono ?_
  rintro e w5 ⟨rfl, K5⟩
  rw [HZ.out]
  clear K4
  go_wp2_with fail
  rw [← HZ.out]
  refine (Lst.is_ K5 n2 cc2 s H2.out.2.2.1 H2.out.2.2.2.1 hsl'.out).mono ?_
  rintro e w6 ⟨rfl, K6⟩
  rw [HZ.out]
  clear K5
  go_wp2_with fail
  refine (Lst.ruse K6 n2 cc2 3 z3 m3 n3 H2.out.2.2.1 (Nat.le_trans H2.out.2.2.2.1 (by decide)) L4.out (by decide) H2.out.2.2.2.2.1 H2.out.2.2.2.2.2 H3.out.2.1 H3.out.1 H3.out.2.2.1).mono ?_
  rintro e w7 ⟨p3, cc3, rfl, K7, l5⟩
  have L5 := Lib.hid l5
  clear K6 l5
  go_wp2_with fail
  refine (Lst.use K7 3 z3 m3 (by decide) H3.out.2.1 H3.out.1).mono ?_
  rintro e w8 ⟨rfl, K8⟩
  clear K7
  go_wp2_with fail
  rw [← HZ.out]
  refine (Lst.is_ K8 n3 cc3 s H3.out.2.2.1 H3.out.2.2.2.1 hsl'.out).mono ?_
  rintro e w9 ⟨rfl, K9⟩
  rw [HZ.out]
  clear K8
  go_wp2_with fail
  rw [← HZ.out]
  refine (Lst.rrem K9 n3 cc3 s z4 m4 n4 H3.out.2.2.1 (Nat.le_trans H3.out.2.2.2.1 (by decide)) L5.out hsl'.out H3.out.2.2.2.2 H4.out.2.1 H4.out.1 H4.out.2.2.1).mono ?_
  rintro e w10 ⟨p4, cc4, rfl, K10, l6⟩
  rw [HZ.out]
  clear K9 l6
  go_wp2_with fail
  rw [← HZ.out]
  refine (Lst.rem K10 s z4 m4 hsl'.out H4.out.2.1 H4.out.1).mono ?_
  rintro e w11 ⟨rfl, K11⟩
  rw [HZ.out]
  clear K10
  go_wp2_with fail
  rw [← HZ.out]
  refine (Lst.is_ K11 n4 cc4 s H4.out.2.2.1 H4.out.2.2.2 hsl'.out).mono ?_
  rintro e w12 ⟨rfl, K12⟩
  rw [HZ.out]
  clear K11
  have B12 := Lib.hid (show Below w.heap.size w w12 from by obtain ⟨_, _, _, _, _, _, _, _, _, _, _, h⟩ := K12.out; exact h)
  clear K12
  go_wp2_with fail
  refine (known15 w12).mono ?_
  rintro e w13 ⟨rfl, b13⟩
  have B13 := Lib.hid (tr B12.out b13)
  clear b13
  go_wp2_with fail
  go_ret
  exact ⟨rfl, B13.out⟩
set_option maxRecDepth 100000 in
theorem llast_far (w : World) (a : Int) (ha : a < -3 ∨ 3 < a) :
    Calls Try.prog 11 #[.int .i64 a] w fun e w' => e = .returned (.bool true) ∧ Below w.heap.size w w' := by
  have HK := Lib.hid (known15 w)
  rcases ha with h | h
  · go_enter Try.func11, Try.ntmps11
    go_wp2_with fail
    refine HK.out.mono ?_
    rintro e w1 ⟨rfl, b1⟩
    have B1 := Lib.hid b1
    clear b1
    go_wp2_with fail
    go_ret
    exact ⟨rfl, B1.out⟩
  · have h2 : ¬ a < -3 := by omega
    go_enter Try.func11, Try.ntmps11
    go_wp2_with fail
    refine HK.out.mono ?_
    rintro e w1 ⟨rfl, b1⟩
    have B1 := Lib.hid b1
    clear b1
    go_wp2_with fail
    go_ret
    exact ⟨rfl, B1.out⟩
theorem llast_any (w : World) (a : Int) :
    Calls Try.prog 11 #[.int .i64 a] w fun e w' => e = .returned (.bool true) ∧ Below w.heap.size w w' := by
  by_cases ha : a < -3 ∨ 3 < a
  · exact llast_far w a ha
  · obtain ⟨s, hs⟩ : ∃ s : Nat, (s : Int) = 4194304 - a := ⟨(4194304 - a).toNat, by omega⟩
    have h3 : ¬ s = 3 := by omega
    have h3' : ¬ 3 = s := fun e => h3 e.symm
    by_cases hl : s < 4194304
    · exact llast_walk w a s (by omega) hs (m2 := [3, s]) (m3 := [s, 3]) (m4 := [3]) (z2 := 0) (z3 := 0) (z4 := 0) (n2 := 2) (n3 := 2) (n4 := 1)
        (by simp [addL, hl, h3]) (by simp [addC, hl, h3]) rfl (by decide) (by simp [hl]) (by simp [h3']) (by simp [useL]) (by simp [remC]) rfl (by decide) (by simp [hl]) (by simp) (by simp [remC, hl]) rfl (by decide)
    · exact llast_walk w a s (by omega) hs (m2 := [3]) (m3 := [3]) (m4 := [3]) (z2 := 2) (z3 := 0) (z4 := 2) (n2 := 1) (n3 := 1) (n4 := 1)
        (by simp [addL, hl]) (by simp [addC, hl]) rfl (by decide) (by simp) (by simp) (by simp [useL]) (by simp [remC]) rfl (by decide) (by simp) (by simp [List.erase_cons, h3']) (by simp [remC, hl]) rfl (by decide)
end Go.Proofs.Ytajkcockeccdoaa.Lru
