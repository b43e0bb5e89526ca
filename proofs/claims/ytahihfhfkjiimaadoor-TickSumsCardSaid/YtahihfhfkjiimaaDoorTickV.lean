/-
  The law of the sums (layer 3), walked.
-/
import Derived.Test.YtahihfhfkjiimaaDoorTickW
set_option linter.unusedVariables false
set_option linter.unusedSimpArgs false
namespace Go.Proofs.YtahihfhfkjiimaaDoor.Tick
open Go.RowKit Kit
set_option maxHeartbeats 2000000 in
set_option maxRecDepth 100000 in
theorem sums_any (t b k : Int) (a : Option Addr) (len cap : Nat) (z : List Int) (w : World) (t0 : 0 ≤ t) (t1 : t ≤ 18446744073709551615) (k0 : 0 ≤ k) (k1 : k ≤ 18446744073709551615)
    (hc : ∀ i, i < len → ∃ x, a = some x ∧ w.cell? (x.add i) = some (.int .u64 (z.getD i 0)))
    (hk : Calls Tryd.prog 13 #[] w fun e w' => e = .returned (.bool true) ∧ Below w.heap.size w w') :
    Calls Tryd.prog 3 #[.int .u64 t, .int .u64 b, .int .u64 k, .slice a len cap] w fun e w' => e = .returned (.bool true) ∧ Below w.heap.size w w' := by
  have HK := Lib.hid hk
  have HC := Lib.hid hc
  clear hk hc
  by_cases hl : 40 < len
  · go_enter Tryd.func3, Tryd.ntmps3
    go_wp2_with fail
    refine HK.out.mono ?_
    rintro e w2 ⟨rfl, b2⟩
    go_wp2_with fail
    go_ret
    exact ⟨rfl, b2⟩
  · go_enter Tryd.func3, Tryd.ntmps3
    go_wp2_with fail
    refine (add_any t k _ t0 t1 k0 k1).mono ?_
    rintro e w1 ⟨rfl, rfl⟩
    go_wp2_with fail
    refine (radd_any t k _ t0 t1 k0 k1).mono ?_
    rintro e w1 ⟨rfl, rfl⟩
    generalize addI t k = s
    go_wp2_with fail
    refine (eff_any t b _).mono ?_
    rintro e w1 ⟨rfl, rfl⟩
    go_wp2_with fail
    refine (reff_any t b _).mono ?_
    rintro e w1 ⟨rfl, rfl⟩
    generalize maxI t b = s2
    go_wp2_with fail
    refine (first_any a len cap z _ (by omega) HC.out).mono ?_
    rintro e w1 ⟨rfl, rfl⟩
    go_wp2_with fail
    refine (rfirst_any a len cap z _ (by omega) HC.out).mono ?_
    rintro e w1 ⟨rfl, rfl⟩
    generalize minF z len = s3
    go_wp2_with fail
    refine HK.out.mono ?_
    rintro e w2 ⟨rfl, b2⟩
    go_wp2_with fail
    go_ret
    exact ⟨rfl, b2⟩
end Go.Proofs.YtahihfhfkjiimaaDoor.Tick
