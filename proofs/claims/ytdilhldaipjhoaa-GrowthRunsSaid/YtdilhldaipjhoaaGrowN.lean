/-
  The law of steps of layer 8 (growth): the numbers of an index, put in and taken out.
-/
import Derived.Test.YtdilhldaipjhoaaGrowH
import Derived.ProofKit
import Derived.OpenShut
import Derived.Deep.LoopGhost
namespace Go.Proofs.Ytdilhldaipjhoaa.Grow
open Go.RowKit Kit GrowM

theorem pow2_double (g : Int) (hg : pow2 g = true) (h : g ≤ 524288) : pow2 (2 * g) = true := by
  obtain ⟨k, _, rfl⟩ := (pow2_iff g).1 hg
  refine (pow2_iff _).2 ⟨k + 1, ?_, by rw [Int.pow_succ, Int.mul_comm]⟩
  rcases Nat.lt_or_ge k 20 with hlt | hge
  · omega
  · have := pow_le 20 k hge
    simp only [Int.reducePow] at this
    omega
theorem boundI_pow2 (l : Int) (h0 : 0 ≤ l) (h1 : l ≤ 300) : pow2 (boundI l / 8) = true := by
  obtain ⟨_, k, hk, e⟩ := boundI_low l h0 (by omega)
  have h8 := boundI_eight l h0 (by omega)
  have hle : boundI l ≤ 8388608 := by
    obtain ⟨k, _, e, h1, h2⟩ := up_spec 1 (4 * l + 16) 30 1 (by simp only [Int.reducePow]; omega)
    unfold boundI; rw [e]
    rcases Nat.lt_or_ge 23 k with hlt | hge
    · have h4 := h2 (by omega)
      have h5 := pow_le 20 (k - 1) (by omega)
      simp only [Int.reducePow] at h5
      omega
    · have := pow_le k 23 hge
      simp only [Int.reducePow] at this
      omega
  refine (pow2_iff _).2 ⟨k - 3, ?_, by rw [e, pow_eight k hk]; omega⟩
  rcases Nat.lt_or_ge 23 k with hlt | hge
  · have := pow_le 24 k (by omega)
    simp only [Int.reducePow] at this
    omega
  · omega

/-- the numbers of an index, as the law keeps them -/
def Run (g l t : Int) : Prop := pow2 g = true ∧ 0 ≤ l ∧ 0 ≤ t ∧ l + t < 8 * g ∧ 8 * g ≤ boundI l
theorem run_start : Run 1 0 0 := ⟨by decide, by decide, by decide, by decide, by decide⟩
/-- what Insert says, and what stands behind it -/
theorem run_insert (g l t : Int) (h : Run g l t) (hl : l ≤ 299) :
    ∃ (p : Int) (r : Bool), (∀ w, Calls Try.prog 32 #[.int .i64 g, .int .i64 l, .int .i64 t] w fun e w' => e = .returned (planV p r 0) ∧ Below w.heap.size w w') ∧
      (∀ w, Calls Try.prog 33 #[.int .i64 g, .int .i64 l, .int .i64 t] w fun e w' => e = .returned (planV p r 0) ∧ Below w.heap.size w w') ∧
      (r = true → Run p (l + 1) 0) ∧ (r = false → Run p (l + 1) t ∧ (0 < t → Run p (l + 1) (t - 1))) := by
  obtain ⟨hg, h0, ht, hlt, hb⟩ := h
  obtain ⟨a1, a2⟩ := pow2_range g hg
  obtain ⟨p, r, c, pi, qi, hi⟩ := insert_both g l t (by omega) (by omega) (by omega) (by omega)
  have hm := boundI_le l (l + 1) (by omega) (by omega)
  have hbad : badLanes g l t = false := (lanes_good g l t).2 (by omega)
  rcases hi with ⟨_, h, _⟩ | ⟨_, _, h, _⟩ | ⟨_, _, ⟨rfl, rfl, rfl, h⟩ | ⟨rfl, rfl, rfl, h, _⟩ | ⟨rfl, rfl, rfl, h, h', _⟩ | ⟨rfl, rfl, rfl, h, h'⟩⟩
  · simp [hg] at h
  · simp [hbad] at h
  · exact ⟨p, false, pi, qi, fun h => by simp at h, fun _ => ⟨⟨hg, by omega, by omega, by omega, by omega⟩, fun _ => ⟨hg, by omega, by omega, by omega, by omega⟩⟩⟩
  · exact ⟨p, true, pi, qi, fun _ => ⟨hg, by omega, by omega, by omega, by omega⟩, fun h => by simp at h⟩
  · have := (boundI_twice g l hg h' (by omega)).resolve_right (by omega)
    exact ⟨2 * g, true, pi, qi, fun _ => ⟨h, by omega, by omega, by omega, by omega⟩, fun h => by simp at h⟩
  · rw [pow2_double g hg (by omega)] at h'
    simp at h'
/-- what Remove says, and what stands behind it: l and t already stand as they do after the slot number was taken out -/
theorem run_remove (g l t : Int) (hg : pow2 g = true) (h0 : 0 ≤ l) (hl : l ≤ 299) (ht : 0 ≤ t) (hlt : l + t < 8 * g) :
    ∃ (p : Int) (r : Bool), (∀ w, Calls Try.prog 34 #[.int .i64 g, .int .i64 l, .int .i64 t] w fun e w' => e = .returned (planV p r 0) ∧ Below w.heap.size w w') ∧
      (∀ w, Calls Try.prog 35 #[.int .i64 g, .int .i64 l, .int .i64 t] w fun e w' => e = .returned (planV p r 0) ∧ Below w.heap.size w w') ∧
      (r = true → Run p l 0) ∧ (r = false → Run p l t) := by
  obtain ⟨a1, a2⟩ := pow2_range g hg
  obtain ⟨p, r, c, pi, qi, hi⟩ := remove_both g l t (by omega) (by omega) (by omega) (by omega)
  have hbad : badLanes g l t = false := (lanes_good g l t).2 (by omega)
  have h8 := boundI_eight l h0 (by omega)
  have hlow := (boundI_low l h0 (by omega)).1
  rcases hi with ⟨_, h, _⟩ | ⟨_, _, h, _⟩ | ⟨rfl, _, _, ⟨rfl, rfl, _, _⟩ | ⟨rfl, rfl, h⟩⟩
  · simp [hg] at h
  · simp [hbad] at h
  · exact ⟨_, true, pi, qi, fun _ => ⟨boundI_pow2 l h0 (by omega), by omega, by omega, by omega, by omega⟩, fun h => by simp at h⟩
  · exact ⟨_, false, pi, qi, fun h => by simp at h, fun _ => ⟨hg, by omega, by omega, by omega, by omega⟩⟩
theorem run_range (g l t : Int) (h : Run g l t) : 1 ≤ g ∧ g ≤ 1048576 ∧ 0 ≤ l ∧ 0 ≤ t ∧ l + t < 8 * g := by
  obtain ⟨hg, h0, ht, hlt, _⟩ := h
  obtain ⟨a1, a2⟩ := pow2_range g hg
  exact ⟨a1, a2, h0, ht, hlt⟩

set_option maxHeartbeats 4000000 in
set_option maxRecDepth 100000 in
theorem runs_any (a : Option Addr) (len cap : Nat) (w : World)
    (hc : ∀ i, i < len → ∃ x n, a = some x ∧ x.block < w.heap.size ∧ 0 ≤ n ∧ n ≤ 255 ∧ w.cell? (x.add i) = some (.int .u8 n)) (hlen : len ≤ 9223372036854775807) :
    Calls Try.prog 11 #[.slice a len cap] w fun e w' => e = .returned (.bool true) ∧ Below w.heap.size w w' := by
  have HC := Lib.hid hc
  clear hc
  by_cases hbig : 300 < len
  · go_enter Try.func11, Try.ntmps11
    go_wp2_with fail
    refine (known_any _).mono ?_
    rintro e w2 ⟨rfl, b2⟩
    go_wp2_with fail
    go_ret
    exact ⟨rfl, b2⟩
  go_enter Try.func11, Try.ntmps11
  go_wp2_with fail
  go_loopw [3, 4, 5, 24] (fun g l t i wr => ∃ (G L T : Int) (k : Nat), g = .int .i64 G ∧ l = .int .i64 L ∧ t = .int .i64 T ∧ Run G L T ∧ L ≤ k ∧ k ≤ len ∧ i = .int .i64 k ∧ Below w.heap.size w wr) (fun _ _ _ i _ => len - (intOf i).toNat)
  case atStart => exact ⟨1, 0, 0, 0, rfl, rfl, rfl, run_start, by omega, by omega, rfl, Below.refl _ _⟩
  case round =>
    obtain ⟨G, L, T, k, rfl, rfl, rfl, hR, hLk, hk, rfl, bW⟩ := hrel
    by_cases hlt : k < len
    · obtain ⟨x, n, rfl, hx, n0, n1, hcell⟩ := HC.out k hlt
      have h1 := (bW.cell (p := x.add k) (by rw [show (x.add k).block = x.block from by unfold Addr.add; split <;> rfl]; exact hx)).trans hcell
      clear hcell
      obtain ⟨g0, g1, l0, t0, lt0⟩ := run_range G L T hR
      by_cases hm : n % 4 = 0
      · by_cases hL : 0 < L
        · by_cases h128 : 128 ≤ n
          · obtain ⟨p, r, pi, qi, ht, hf⟩ := run_remove G (L - 1) (T + 1) hR.1 (by omega) (by omega) (by omega) (by omega)
            have PI := Lib.hid pi; have QI := Lib.hid qi; have HT := Lib.hid ht; have HF := Lib.hid hf; have HR := Lib.hid hR
            clear pi qi ht hf hR
            go_wp2_with fail
            refine (PI.out _).mono ?_
            rintro e w1 ⟨rfl, b1⟩
            simp only [planV]
            go_wp2_with fail
            refine (QI.out _).mono ?_
            rintro e w2 ⟨rfl, b2⟩
            simp only [planV]
            have A2 := (Bx.new w1 48 (.int .i64 p) (.bool r)).below b2
            have y0 := A2.c0
            have y1 := A2.c1
            have yl := A2.lt
            cases r
            · have HZ := Lib.hid (HF.out rfl)
              obtain ⟨ry0, ry1, ry2, ry3, ry4⟩ := run_range _ _ _ HZ.out
              have hM8 := HZ.out.2.2.2.2
              have HBM := Lib.hid (Bound_ok (L - 1) (by omega) (by omega))
              generalize boundI (L - 1) = M at *
              go_wp2_with fail
              refine (HBM.out _).mono ?_
              rintro e w3 ⟨rfl, b3⟩
              go_wp2_with fail
              go_roundw
              case rel => exact ⟨p, L - 1, T + 1, k + 1, rfl, rfl, rfl, HZ.out, by omega, by omega, by go_num, tr bW (tr (tr b1 (tr (by go_grown) b2)) (tr (by go_grown) b3))⟩
              case measure => simp [intOf]; omega
            · have HZ := Lib.hid (HT.out rfl)
              obtain ⟨ry0, ry1, ry2, ry3, ry4⟩ := run_range _ _ _ HZ.out
              have hM8 := HZ.out.2.2.2.2
              have HBM := Lib.hid (Bound_ok (L - 1) (by omega) (by omega))
              generalize boundI (L - 1) = M at *
              go_wp2_with fail
              refine (HBM.out _).mono ?_
              rintro e w3 ⟨rfl, b3⟩
              go_wp2_with fail
              go_roundw
              case rel => exact ⟨p, L - 1, 0, k + 1, rfl, rfl, rfl, HZ.out, by omega, by omega, by go_num, tr bW (tr (tr b1 (tr (by go_grown) b2)) (tr (by go_grown) b3))⟩
              case measure => simp [intOf]; omega
          · obtain ⟨p, r, pi, qi, ht, hf⟩ := run_remove G (L - 1) (T) hR.1 (by omega) (by omega) (by omega) (by omega)
            have PI := Lib.hid pi; have QI := Lib.hid qi; have HT := Lib.hid ht; have HF := Lib.hid hf; have HR := Lib.hid hR
            clear pi qi ht hf hR
            go_wp2_with fail
            refine (PI.out _).mono ?_
            rintro e w1 ⟨rfl, b1⟩
            simp only [planV]
            go_wp2_with fail
            refine (QI.out _).mono ?_
            rintro e w2 ⟨rfl, b2⟩
            simp only [planV]
            have A2 := (Bx.new w1 48 (.int .i64 p) (.bool r)).below b2
            have y0 := A2.c0
            have y1 := A2.c1
            have yl := A2.lt
            cases r
            · have HZ := Lib.hid (HF.out rfl)
              obtain ⟨ry0, ry1, ry2, ry3, ry4⟩ := run_range _ _ _ HZ.out
              have hM8 := HZ.out.2.2.2.2
              have HBM := Lib.hid (Bound_ok (L - 1) (by omega) (by omega))
              generalize boundI (L - 1) = M at *
              go_wp2_with fail
              refine (HBM.out _).mono ?_
              rintro e w3 ⟨rfl, b3⟩
              go_wp2_with fail
              go_roundw
              case rel => exact ⟨p, L - 1, T, k + 1, rfl, rfl, rfl, HZ.out, by omega, by omega, by go_num, tr bW (tr (tr b1 (tr (by go_grown) b2)) (tr (by go_grown) b3))⟩
              case measure => simp [intOf]; omega
            · have HZ := Lib.hid (HT.out rfl)
              obtain ⟨ry0, ry1, ry2, ry3, ry4⟩ := run_range _ _ _ HZ.out
              have hM8 := HZ.out.2.2.2.2
              have HBM := Lib.hid (Bound_ok (L - 1) (by omega) (by omega))
              generalize boundI (L - 1) = M at *
              go_wp2_with fail
              refine (HBM.out _).mono ?_
              rintro e w3 ⟨rfl, b3⟩
              go_wp2_with fail
              go_roundw
              case rel => exact ⟨p, L - 1, 0, k + 1, rfl, rfl, rfl, HZ.out, by omega, by omega, by go_num, tr bW (tr (tr b1 (tr (by go_grown) b2)) (tr (by go_grown) b3))⟩
              case measure => simp [intOf]; omega
        · have HZ := Lib.hid hR
          clear hR
          obtain ⟨ry0, ry1, ry2, ry3, ry4⟩ := run_range _ _ _ HZ.out
          have hM8 := HZ.out.2.2.2.2
          have HBM := Lib.hid (Bound_ok (L) (by omega) (by omega))
          generalize boundI (L) = M at *
          go_wp2_with fail
          refine (HBM.out _).mono ?_
          rintro e w3 ⟨rfl, b3⟩
          go_wp2_with fail
          go_roundw
          case rel => exact ⟨G, L, T, k + 1, rfl, rfl, rfl, HZ.out, by omega, by omega, by go_num, tr bW b3⟩
          case measure => simp [intOf]; omega
      · obtain ⟨p, r, pi, qi, ht, hf⟩ := run_insert G L T hR (by omega)
        have PI := Lib.hid pi; have QI := Lib.hid qi; have HT := Lib.hid ht; have HF := Lib.hid hf; have HR := Lib.hid hR
        clear pi qi ht hf hR
        go_wp2_with fail
        refine (PI.out _).mono ?_
        rintro e w1 ⟨rfl, b1⟩
        simp only [planV]
        go_wp2_with fail
        refine (QI.out _).mono ?_
        rintro e w2 ⟨rfl, b2⟩
        simp only [planV]
        have A2 := (Bx.new w1 48 (.int .i64 p) (.bool r)).below b2
        have y0 := A2.c0
        have y1 := A2.c1
        have yl := A2.lt
        cases r
        · have HY := Lib.hid (HF.out rfl)
          by_cases hT : 0 < T ∧ 128 ≤ n
          · obtain ⟨hT1, hT2⟩ := hT
            have HZ := Lib.hid (HY.out.2 hT1)
            obtain ⟨ry0, ry1, ry2, ry3, ry4⟩ := run_range _ _ _ HZ.out
            have hM8 := HZ.out.2.2.2.2
            have HBM := Lib.hid (Bound_ok (L + 1) (by omega) (by omega))
            generalize boundI (L + 1) = M at *
            go_wp2_with fail
            refine (HBM.out _).mono ?_
            rintro e w3 ⟨rfl, b3⟩
            go_wp2_with fail
            go_roundw
            case rel => exact ⟨p, L + 1, T - 1, k + 1, rfl, rfl, rfl, HZ.out, by omega, by omega, by go_num, tr bW (tr (tr b1 (tr (by go_grown) b2)) (tr (by go_grown) b3))⟩
            case measure => simp [intOf]; omega
          · have HZ := Lib.hid HY.out.1
            by_cases hT1 : 0 < T
            · have hT2 : n < 128 := by omega
              clear hT
              obtain ⟨ry0, ry1, ry2, ry3, ry4⟩ := run_range _ _ _ HZ.out
              have hM8 := HZ.out.2.2.2.2
              have HBM := Lib.hid (Bound_ok (L + 1) (by omega) (by omega))
              generalize boundI (L + 1) = M at *
              go_wp2_with fail
              refine (HBM.out _).mono ?_
              rintro e w3 ⟨rfl, b3⟩
              go_wp2_with fail
              go_roundw
              case rel => exact ⟨p, L + 1, T, k + 1, rfl, rfl, rfl, HZ.out, by omega, by omega, by go_num, tr bW (tr (tr b1 (tr (by go_grown) b2)) (tr (by go_grown) b3))⟩
              case measure => simp [intOf]; omega
            · clear hT
              obtain ⟨ry0, ry1, ry2, ry3, ry4⟩ := run_range _ _ _ HZ.out
              have hM8 := HZ.out.2.2.2.2
              have HBM := Lib.hid (Bound_ok (L + 1) (by omega) (by omega))
              generalize boundI (L + 1) = M at *
              go_wp2_with fail
              refine (HBM.out _).mono ?_
              rintro e w3 ⟨rfl, b3⟩
              go_wp2_with fail
              go_roundw
              case rel => exact ⟨p, L + 1, T, k + 1, rfl, rfl, rfl, HZ.out, by omega, by omega, by go_num, tr bW (tr (tr b1 (tr (by go_grown) b2)) (tr (by go_grown) b3))⟩
              case measure => simp [intOf]; omega
        · have HZ := Lib.hid (HT.out rfl)
          obtain ⟨ry0, ry1, ry2, ry3, ry4⟩ := run_range _ _ _ HZ.out
          have hM8 := HZ.out.2.2.2.2
          have HBM := Lib.hid (Bound_ok (L + 1) (by omega) (by omega))
          generalize boundI (L + 1) = M at *
          go_wp2_with fail
          refine (HBM.out _).mono ?_
          rintro e w3 ⟨rfl, b3⟩
          go_wp2_with fail
          go_roundw
          case rel => exact ⟨p, L + 1, 0, k + 1, rfl, rfl, rfl, HZ.out, by omega, by omega, by go_num, tr bW (tr (tr b1 (tr (by go_grown) b2)) (tr (by go_grown) b3))⟩
          case measure => simp [intOf]; omega
    · go_wp2_with fail
      refine (known_any _).mono ?_
      rintro e w2 ⟨rfl, b2⟩
      go_wp2_with fail
      go_ret
      exact ⟨rfl, tr bW b2⟩
end Go.Proofs.Ytdilhldaipjhoaa.Grow
