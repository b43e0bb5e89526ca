/-
  The law's 'there' of layer 17.
-/
import Derived.Test.YtjlfjgmkbjfbcaaBudK
import Derived.Test.YtjlfjgmkbjfbcaaBudU
import Derived.Test.YtjlfjgmkbjfbcaaBudT
set_option linter.unusedVariables false
set_option linter.unusedSimpArgs false
namespace Go.Proofs.Ytjlfjgmkbjfbcaa.Bud
open Go.RowKit Kit
def thB (n t c : Int) : Bool := (decide (1 < n) && decide (c ≤ t)) || ((n == 1) && (t == c))
theorem thB_has {n t c : Int} (hn : 0 ≤ n) (hz : n = 0 → t = 0) (hc : 0 ≤ c) : thB n t c = hasB n t c := by
  unfold thB hasB
  rw [Bool.eq_iff_iff]
  simp only [Bool.or_eq_true, Bool.and_eq_true, decide_eq_true_eq, beq_iff_eq, bne_iff_ne, ne_eq]
  omega
set_option maxRecDepth 100000 in
set_option maxHeartbeats 2000000 in
theorem lthere0 (mc mb n0 n1 c0 c1 x : Int) (w : World) :
    Calls Try.prog 30 #[sV mc mb n0 n1 c0 c1, .int .i64 0, .int .i64 x] w fun e w' => e = .returned (.bool (thB n0 c0 x)) ∧ Below w.heap.size w w' := by
  unfold sV
  by_cases h1 : 1 < n0
  · have h1d : decide (1 < n0) = true := decide_eq_true h1
    have h3d : (n0 == 1) = false := beq_eq_false_iff_ne.2 (by omega)
    by_cases h2 : x ≤ c0
    · have h2d : decide (x ≤ c0) = true := decide_eq_true h2
      go_enter Try.func30, Try.ntmps30
      go_wp2_with fail
      go_ret
      exact ⟨ret_bool (by unfold thB; simp only [h1d, h2d, h3d]; rfl), by go_grown⟩
    · have h2d : decide (x ≤ c0) = false := decide_eq_false h2
      go_enter Try.func30, Try.ntmps30
      go_wp2_with fail
      go_ret
      exact ⟨ret_bool (by unfold thB; simp only [h1d, h2d, h3d]; rfl), by go_grown⟩
  · have h1d : decide (1 < n0) = false := decide_eq_false h1
    by_cases h3 : n0 = 1
    · have h3d : (n0 == 1) = true := beq_iff_eq.2 h3
      clear h3
      by_cases h4 : c0 = x
      · have h4d : (c0 == x) = true := beq_iff_eq.2 h4
        clear h4
        go_enter Try.func30, Try.ntmps30
        go_wp2_with fail
        go_ret
        exact ⟨ret_bool (by unfold thB; simp only [h1d, h3d, h4d]; rfl), by go_grown⟩
      · have h4d : (c0 == x) = false := beq_eq_false_iff_ne.2 h4
        go_enter Try.func30, Try.ntmps30
        go_wp2_with fail
        go_ret
        exact ⟨ret_bool (by unfold thB; simp only [h1d, h3d, h4d]; rfl), by go_grown⟩
    · have h3d : (n0 == 1) = false := beq_eq_false_iff_ne.2 h3
      go_enter Try.func30, Try.ntmps30
      go_wp2_with fail
      go_ret
      exact ⟨ret_bool (by unfold thB; simp only [h1d, h3d]; rfl), by go_grown⟩
set_option maxRecDepth 100000 in
set_option maxHeartbeats 2000000 in
theorem lthere1 (mc mb n0 n1 c0 c1 x : Int) (w : World) :
    Calls Try.prog 30 #[sV mc mb n0 n1 c0 c1, .int .i64 1, .int .i64 x] w fun e w' => e = .returned (.bool (thB n1 c1 x)) ∧ Below w.heap.size w w' := by
  unfold sV
  by_cases h1 : 1 < n1
  · have h1d : decide (1 < n1) = true := decide_eq_true h1
    have h3d : (n1 == 1) = false := beq_eq_false_iff_ne.2 (by omega)
    by_cases h2 : x ≤ c1
    · have h2d : decide (x ≤ c1) = true := decide_eq_true h2
      go_enter Try.func30, Try.ntmps30
      go_wp2_with fail
      go_ret
      exact ⟨ret_bool (by unfold thB; simp only [h1d, h2d, h3d]; rfl), by go_grown⟩
    · have h2d : decide (x ≤ c1) = false := decide_eq_false h2
      go_enter Try.func30, Try.ntmps30
      go_wp2_with fail
      go_ret
      exact ⟨ret_bool (by unfold thB; simp only [h1d, h2d, h3d]; rfl), by go_grown⟩
  · have h1d : decide (1 < n1) = false := decide_eq_false h1
    by_cases h3 : n1 = 1
    · have h3d : (n1 == 1) = true := beq_iff_eq.2 h3
      clear h3
      by_cases h4 : c1 = x
      · have h4d : (c1 == x) = true := beq_iff_eq.2 h4
        clear h4
        go_enter Try.func30, Try.ntmps30
        go_wp2_with fail
        go_ret
        exact ⟨ret_bool (by unfold thB; simp only [h1d, h3d, h4d]; rfl), by go_grown⟩
      · have h4d : (c1 == x) = false := beq_eq_false_iff_ne.2 h4
        go_enter Try.func30, Try.ntmps30
        go_wp2_with fail
        go_ret
        exact ⟨ret_bool (by unfold thB; simp only [h1d, h3d, h4d]; rfl), by go_grown⟩
    · have h3d : (n1 == 1) = false := beq_eq_false_iff_ne.2 h3
      go_enter Try.func30, Try.ntmps30
      go_wp2_with fail
      go_ret
      exact ⟨ret_bool (by unfold thB; simp only [h1d, h3d]; rfl), by go_grown⟩
end Go.Proofs.Ytjlfjgmkbjfbcaa.Bud
