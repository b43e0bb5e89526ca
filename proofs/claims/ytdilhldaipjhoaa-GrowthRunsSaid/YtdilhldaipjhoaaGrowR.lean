/-
  Walks over the laws of layer 8 (growth): limits, plans.
-/
import Derived.Test.YtdilhldaipjhoaaGrowS
import Derived.ProofKit
import Derived.OpenShut
namespace Go.Proofs.Ytdilhldaipjhoaa.Grow
open Go.RowKit Kit GrowM

theorem limit_both (g : Int) : ∃ n c : Int, (∀ w, Calls Try.prog 24 #[.int .i64 g] w fun e w' => e = .returned (.tuple #[.int .i64 n, .int .i64 c]) ∧ Below w.heap.size w w') ∧
    (∀ w, Calls Try.prog 25 #[.int .i64 g] w fun e w' => e = .returned (.tuple #[.int .i64 n, .int .i64 c]) ∧ w = w') := by
  cases h : pow2 g
  · exact ⟨0, 2, fun w => limit_bad g h w, fun w => rlimit_bad g h w⟩
  · exact ⟨7 * g, 0, fun w => limit_ok g h w, fun w => rlimit_ok g h w⟩
theorem bound_both (l : Int) : ∃ n c : Int, (∀ w, Calls Try.prog 27 #[.int .i64 l] w fun e w' => e = .returned (.tuple #[.int .i64 n, .int .i64 c]) ∧ Below w.heap.size w w') ∧
    (∀ w, Calls Try.prog 28 #[.int .i64 l] w fun e w' => e = .returned (.tuple #[.int .i64 n, .int .i64 c]) ∧ w = w') := by
  cases h : badLive l
  · obtain ⟨h0, h1⟩ := (good_iff l).1 h
    exact ⟨boundI l, 0, fun w => Bound_ok l h0 h1 w, fun w => RBound_ok l h0 h1 w⟩
  · exact ⟨0, 3, fun w => Bound_bad l h w, fun w => RBound_bad l h w⟩
theorem groups_both (l : Int) : ∃ n c : Int, (∀ w, Calls Try.prog 29 #[.int .i64 l] w fun e w' => e = .returned (.tuple #[.int .i64 n, .int .i64 c]) ∧ Below w.heap.size w w') ∧
    (∀ w, Calls Try.prog 30 #[.int .i64 l] w fun e w' => e = .returned (.tuple #[.int .i64 n, .int .i64 c]) ∧ w = w') := by
  cases h : badLive l
  · obtain ⟨h0, h1⟩ := (good_iff l).1 h
    exact ⟨groupsI l, 0, fun w => Groups_ok l h0 h1 w, fun w => RGroups_ok l h0 h1 w⟩
  · exact ⟨0, 3, fun w => Groups_bad l h w, fun w => RGroups_bad l h w⟩

set_option maxHeartbeats 2000000 in
theorem limits_any (g l : Int) (w : World) :
    Calls Try.prog 8 #[.int .i64 g, .int .i64 l] w fun e w' => e = .returned (.bool true) ∧ Below w.heap.size w w' := by
  obtain ⟨n1, c1, p1, q1⟩ := limit_both g
  obtain ⟨n2, c2, p2, q2⟩ := bound_both l
  obtain ⟨n3, c3, p3, q3⟩ := groups_both l
  have P1 := Lib.hid p1; have Q1 := Lib.hid q1; have P2 := Lib.hid p2; have Q2 := Lib.hid q2; have P3 := Lib.hid p3; have Q3 := Lib.hid q3
  clear p1 q1 p2 q2 p3 q3
  go_enter Try.func8, Try.ntmps8
  go_wp2_with fail
  refine (P1.out _).mono ?_
  rintro e w1 ⟨rfl, b1⟩
  go_wp2_with fail
  refine (Q1.out _).mono ?_
  rintro e wq ⟨rfl, rfl⟩
  go_wp2_with fail
  refine (is_same _ _ _).mono ?_
  rintro e wq ⟨rfl, rfl⟩
  go_wp2_with fail
  refine (P2.out _).mono ?_
  rintro e w2 ⟨rfl, b2⟩
  go_wp2_with fail
  refine (Q2.out _).mono ?_
  rintro e wq ⟨rfl, rfl⟩
  go_wp2_with fail
  refine (is_same _ _ _).mono ?_
  rintro e wq ⟨rfl, rfl⟩
  go_wp2_with fail
  refine (P3.out _).mono ?_
  rintro e w3 ⟨rfl, b3⟩
  go_wp2_with fail
  refine (Q3.out _).mono ?_
  rintro e wq ⟨rfl, rfl⟩
  go_wp2_with fail
  refine (is_same _ _ _).mono ?_
  rintro e wq ⟨rfl, rfl⟩
  go_wp2_with fail
  refine (known_any _).mono ?_
  rintro e w4 ⟨rfl, b4⟩
  go_wp2_with fail
  go_ret
  exact ⟨rfl, tr (tr (tr b1 b2) b3) b4⟩

set_option maxHeartbeats 2000000 in
theorem inserts_any (g l t : Int) (g0 : -9223372036854775808 ≤ g) (g1 : g ≤ 9223372036854775807) (l0 : -9223372036854775808 ≤ l) (l1 : l ≤ 9223372036854775807) (w : World) :
    Calls Try.prog 9 #[.int .i64 g, .int .i64 l, .int .i64 t] w fun e w' => e = .returned (.bool true) ∧ Below w.heap.size w w' := by
  obtain ⟨p, r, c, p1, q1, _⟩ := insert_both g l t g0 g1 l0 l1
  have P1 := Lib.hid p1; have Q1 := Lib.hid q1
  clear p1 q1
  go_enter Try.func9, Try.ntmps9
  go_wp2_with fail
  refine (P1.out _).mono ?_
  rintro e w1 ⟨rfl, b1⟩
  simp only [planV]
  go_wp2_with fail
  refine (Q1.out _).mono ?_
  rintro e w2 ⟨rfl, b2⟩
  simp only [planV]
  have A2 := (Bx.new w1 48 (.int .i64 p) (.bool r)).below b2
  have x0 := A2.c0
  have x1 := A2.c1
  have xl := A2.lt
  go_wp2_with fail
  refine (known_any _).mono ?_
  rintro e w3 ⟨rfl, b3⟩
  go_wp2_with fail
  go_ret
  exact ⟨rfl, tr (tr b1 (tr (by go_grown) b2)) (tr (by go_grown) b3)⟩
set_option maxHeartbeats 2000000 in
theorem removes_any (g l t : Int) (g0 : -9223372036854775808 ≤ g) (g1 : g ≤ 9223372036854775807) (l0 : -9223372036854775808 ≤ l) (l1 : l ≤ 9223372036854775807) (w : World) :
    Calls Try.prog 10 #[.int .i64 g, .int .i64 l, .int .i64 t] w fun e w' => e = .returned (.bool true) ∧ Below w.heap.size w w' := by
  obtain ⟨p, r, c, p1, q1, _⟩ := remove_both g l t g0 g1 l0 l1
  have P1 := Lib.hid p1; have Q1 := Lib.hid q1
  clear p1 q1
  go_enter Try.func10, Try.ntmps10
  go_wp2_with fail
  refine (P1.out _).mono ?_
  rintro e w1 ⟨rfl, b1⟩
  simp only [planV]
  go_wp2_with fail
  refine (Q1.out _).mono ?_
  rintro e w2 ⟨rfl, b2⟩
  simp only [planV]
  have A2 := (Bx.new w1 48 (.int .i64 p) (.bool r)).below b2
  have x0 := A2.c0
  have x1 := A2.c1
  have xl := A2.lt
  go_wp2_with fail
  refine (known_any _).mono ?_
  rintro e w3 ⟨rfl, b3⟩
  go_wp2_with fail
  go_ret
  exact ⟨rfl, tr (tr b1 (tr (by go_grown) b2)) (tr (by go_grown) b3)⟩
end Go.Proofs.Ytdilhldaipjhoaa.Grow
