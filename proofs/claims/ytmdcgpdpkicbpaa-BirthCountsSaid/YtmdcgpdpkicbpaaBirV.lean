/-
  The law of the counters (layer 12), walked.
-/
import Derived.Test.YtmdcgpdpkicbpaaBirW
import Derived.Test.YtmdcgpdpkicbpaaEvX
import Derived.Test.YtmdcgpdpkicbpaaK12known
set_option linter.unusedVariables false
set_option linter.unusedSimpArgs false
namespace Go.Proofs.Ytmdcgpdpkicbpaa.Bir
open Go.RowKit Kit
theorem known_any (w : World) : Calls Try.prog 55 #[] w fun e w' => e = .returned (.bool true) ∧ Below w.heap.size w w' :=
  Ev.eval_case YtmdcgpdpkicbpaaK12known.known (by kernel_rfl) (fun _ => undef) w Ev.gnil .nil Ev.hnil
set_option maxHeartbeats 2000000 in
set_option maxRecDepth 100000 in
theorem counts_bad (l n t : Int) (w : World) (h : n < 0 ∨ 60 < n) :
    Calls Try.prog 7 #[.int .u64 l, .int .i64 n, .int .i64 t] w fun e w' => e = .returned (.bool true) ∧ Below w.heap.size w w' := by
  by_cases h0 : n < 0
  · clear h
    go_enter Try.func7, Try.ntmps7
    go_wp2_with fail
    refine (known_any _).mono ?_
    rintro e w2 ⟨rfl, b2⟩
    go_wp2_with fail
    go_ret
    exact ⟨rfl, b2⟩
  · have h1 : 60 < n := by omega
    clear h
    go_enter Try.func7, Try.ntmps7
    go_wp2_with fail
    refine (known_any _).mono ?_
    rintro e w2 ⟨rfl, b2⟩
    go_wp2_with fail
    go_ret
    exact ⟨rfl, b2⟩
set_option maxHeartbeats 4000000 in
set_option maxRecDepth 100000 in
theorem counts_any (l n t : Int) (w : World) (h0 : 0 ≤ n) (h1 : n ≤ 60) (l0 : 0 ≤ l) (l1 : l ≤ 18446744073709551615) :
    Calls Try.prog 7 #[.int .u64 l, .int .i64 n, .int .i64 t] w fun e w' => e = .returned (.bool true) ∧ Below w.heap.size w w' := by
  go_enter Try.func7, Try.ntmps7
  go_wp2_with fail
  refine (new_any l _).mono ?_
  rintro e w1 ⟨p, rfl, hp, c1, b1⟩
  have C1 := Lib.hid c1
  clear c1
  go_wp2_with fail
  go_loopw [8, 9] (fun now i wr => ∃ (g k : Int), now = .int .u64 g ∧ i = .int .i64 k ∧ 0 ≤ k ∧ k ≤ n ∧ 0 ≤ g ∧ g ≤ 18446744073709551615 ∧ Cn wr p g ∧ Below w.heap.size w wr) (fun _ i _ => (n - intOf i).toNat)
  case atStart => exact ⟨l, 0, rfl, rfl, by omega, h0, l0, l1, C1.out, b1⟩
  case round =>
    obtain ⟨g, k, rfl, rfl, k0, k1, g0, g1, cg, bg⟩ := hrel
    have HC := Lib.hid cg
    clear C1
    by_cases hlt : k < n
    · have hw := IntWalk.i64_in (k + 1) (by omega)
      by_cases ht : k = t
      · by_cases hf : g = 18446744073709551615
        · subst hf
          clear cg
          go_wp2_with fail
          refine (copy_any p _ _ HC.out).mono ?_
          rintro e w2 ⟨q, rfl, hq, cq, b2⟩
          have HQ := Lib.hid cq
          clear cq
          go_wp2_with fail
          refine (last_any q _ _ HQ.out).mono ?_
          rintro e w3 ⟨rfl, rfl⟩
          go_wp2_with fail
          refine (next_full q _ HQ.out).mono ?_
          rintro e w3 ⟨rfl, rfl⟩
          go_wp2_with fail
          refine (rnext_full _).mono ?_
          rintro e w3 ⟨rfl, rfl⟩
          go_wp2_with fail
          refine (gives_full p _ (HC.out.below b2)).mono ?_
          rintro e w3 ⟨rfl, rfl⟩
          go_wp2_with fail
          refine (last_any p _ _ (HC.out.below b2)).mono ?_
          rintro e w3 ⟨rfl, rfl⟩
          go_wp2_with fail
          go_roundw
          case rel => exact ⟨_, k + 1, rfl, by go_num, by omega, by omega, by omega, by omega, HC.out.below b2, tr bg b2⟩
          case measure => simp [intOf]; omega
        · have hp2 := HC.out.lt
          clear cg
          go_wp2_with fail
          refine (copy_any p _ _ HC.out).mono ?_
          rintro e w2 ⟨q, rfl, hq, cq, b2⟩
          have HQ := Lib.hid cq
          clear cq
          go_wp2_with fail
          refine (last_any q _ _ HQ.out).mono ?_
          rintro e w3 ⟨rfl, rfl⟩
          go_wp2_with fail
          refine (next_ok q _ _ HQ.out g0 (by omega)).mono ?_
          rintro e w3 ⟨rfl, c3, b3⟩
          have HP := Lib.hid (show Cn w3 p g from (b3.block p (by omega)).trans (HC.out.below b2))
          have HB := Lib.hid (show Below w.heap.size w w3 from (tr bg b2).trans (b3.mono (by have := bg.size; omega)))
          clear c3
          go_wp2_with fail
          refine (rnext_ok g _ g0 (by omega)).mono ?_
          rintro e w4 ⟨rfl, rfl⟩
          go_wp2_with fail
          refine (gives_ok p g _ HP.out g0 (by omega)).mono ?_
          rintro e w4 ⟨rfl, c4, b4⟩
          have HD := Lib.hid c4
          clear c4
          go_wp2_with fail
          refine (last_any p _ _ HD.out).mono ?_
          rintro e w5 ⟨rfl, rfl⟩
          go_wp2_with fail
          go_roundw
          case rel => exact ⟨g + 1, k + 1, rfl, by go_num, by omega, by omega, by omega, by omega, HD.out, HB.out.trans (b4.mono hp)⟩
          case measure => simp [intOf]; omega
      · by_cases hf : g = 18446744073709551615
        · subst hf
          clear cg
          go_wp2_with fail
          refine (rnext_full _).mono ?_
          rintro e w3 ⟨rfl, rfl⟩
          go_wp2_with fail
          refine (gives_full p _ HC.out).mono ?_
          rintro e w3 ⟨rfl, rfl⟩
          go_wp2_with fail
          refine (last_any p _ _ HC.out).mono ?_
          rintro e w3 ⟨rfl, rfl⟩
          go_wp2_with fail
          go_roundw
          case rel => exact ⟨_, k + 1, rfl, by go_num, by omega, by omega, by omega, by omega, HC.out, bg⟩
          case measure => simp [intOf]; omega
        · clear cg
          go_wp2_with fail
          refine (rnext_ok g _ g0 (by omega)).mono ?_
          rintro e w4 ⟨rfl, rfl⟩
          go_wp2_with fail
          refine (gives_ok p g _ HC.out g0 (by omega)).mono ?_
          rintro e w4 ⟨rfl, c4, b4⟩
          have HD := Lib.hid c4
          clear c4
          go_wp2_with fail
          refine (last_any p _ _ HD.out).mono ?_
          rintro e w5 ⟨rfl, rfl⟩
          go_wp2_with fail
          go_roundw
          case rel => exact ⟨g + 1, k + 1, rfl, by go_num, by omega, by omega, by omega, by omega, HD.out, bg.trans (b4.mono hp)⟩
          case measure => simp [intOf]; omega
    · clear cg
      go_wp2_with fail
      refine (last_any p _ _ HC.out).mono ?_
      rintro e w3 ⟨rfl, rfl⟩
      go_wp2_with fail
      refine (known_any _).mono ?_
      rintro e w4 ⟨rfl, b4⟩
      go_wp2_with fail
      go_ret
      exact ⟨rfl, tr bg b4⟩
end Go.Proofs.Ytmdcgpdpkicbpaa.Bir
