/-
  Walks over package tick (layer 3): sums, and the earliest time.
-/
import Derived.Test.YtahihfhfkjiimaaDoorProg
import Derived.Test.YtahihfhfkjiimaaDoorKit
import Derived.Deep.RegionWith
import Derived.BigRegion
import Derived.BigQuiet
import Derived.Deep.QuietTactic
import Derived.WideShapes
set_option linter.unusedVariables false
set_option linter.unusedSimpArgs false
namespace Go.Proofs.YtahihfhfkjiimaaDoor.Tick
open Go.RowKit Kit

def addI (t k : Int) : Int := if 18446744073709551615 - t < k then 18446744073709551615 else t + k
theorem add_any (t k : Int) (w : World) (t0 : 0 ≤ t) (t1 : t ≤ 18446744073709551615) (k0 : 0 ≤ k) (k1 : k ≤ 18446744073709551615) :
    Calls Tryd.prog 14 #[.int .u64 t, .int .u64 k] w fun e w' => e = .returned (.int .u64 (addI t k)) ∧ w = w' := by
  have hw := IntWalk.u64_in (18446744073709551615 - t) (by omega)
  by_cases hb : 18446744073709551615 - t < k
  · have he : addI t k = 18446744073709551615 := if_pos hb
    rw [he]
    clear he
    go_enter Tryd.func14, Tryd.ntmps14
    go_wp2
    go_ret
    exact ⟨rfl, rfl⟩
  · have he : addI t k = t + k := if_neg hb
    have hw2 := IntWalk.u64_in (t + k) (by omega)
    rw [he]
    clear he
    go_enter Tryd.func14, Tryd.ntmps14
    go_wp2
    go_ret
    exact ⟨rfl, rfl⟩
theorem radd_any (t k : Int) (w : World) (t0 : 0 ≤ t) (t1 : t ≤ 18446744073709551615) (k0 : 0 ≤ k) (k1 : k ≤ 18446744073709551615) :
    Calls Tryd.prog 15 #[.int .u64 t, .int .u64 k] w fun e w' => e = .returned (.int .u64 (addI t k)) ∧ w = w' := by
  have hw := IntWalk.u64_in (18446744073709551615 - t) (by omega)
  by_cases hb : k < 18446744073709551615 - t
  · have he : addI t k = t + k := if_neg (by omega)
    have hw2 := IntWalk.u64_in (t + k) (by omega)
    rw [he]
    clear he
    go_enter Tryd.func15, Tryd.ntmps15
    go_wp2
    go_ret
    exact ⟨rfl, rfl⟩
  · have he : addI t k = 18446744073709551615 := by unfold addI; split <;> omega
    rw [he]
    clear he
    go_enter Tryd.func15, Tryd.ntmps15
    go_wp2
    go_ret
    exact ⟨rfl, rfl⟩
def maxI (a b : Int) : Int := if b > a then b else a
theorem eff_any (a b : Int) (w : World) :
    Calls Tryd.prog 16 #[.int .u64 a, .int .u64 b] w fun e w' => e = .returned (.int .u64 (maxI a b)) ∧ w = w' := by
  unfold maxI
  by_cases hb : b > a
  · rw [if_pos hb]
    go_enter Tryd.func16, Tryd.ntmps16
    go_wp2
    go_ret
    exact ⟨ret_int (by omega), rfl⟩
  · rw [if_neg hb]
    go_enter Tryd.func16, Tryd.ntmps16
    go_wp2
    go_ret
    exact ⟨ret_int (by omega), rfl⟩
theorem reff_any (a b : Int) (w : World) :
    Calls Tryd.prog 17 #[.int .u64 a, .int .u64 b] w fun e w' => e = .returned (.int .u64 (maxI a b)) ∧ w = w' := by
  unfold maxI
  by_cases hb : b > a
  · rw [if_pos hb]
    go_enter Tryd.func17, Tryd.ntmps17
    go_wp2
    go_ret
    exact ⟨rfl, rfl⟩
  · rw [if_neg hb]
    go_enter Tryd.func17, Tryd.ntmps17
    go_wp2
    go_ret
    exact ⟨rfl, rfl⟩
def minF (z : List Int) : Nat → Int
  | 0 => 18446744073709551615
  | j + 1 => if z.getD j 0 < minF z j then z.getD j 0 else minF z j
set_option maxHeartbeats 1000000 in
theorem first_any (a : Option Addr) (len cap : Nat) (z : List Int) (w : World) (hl : len ≤ 40)
    (hc : ∀ i, i < len → ∃ x, a = some x ∧ w.cell? (x.add i) = some (.int .u64 (z.getD i 0))) :
    Calls Tryd.prog 18 #[.slice a len cap] w fun e w' => e = .returned (.int .u64 (minF z len)) ∧ w = w' := by
  have HC := Lib.hid hc
  clear hc
  go_enter Tryd.func18, Tryd.ntmps18
  go_wp2_with fail
  go_loop [3, 8] (fun m i => ∃ k : Nat, k ≤ len ∧ i = .int .i64 k ∧ m = .int .u64 (minF z k)) (fun _ i => len - (intOf i).toNat)
  case atStart => exact ⟨0, by omega, rfl, rfl⟩
  case round =>
    obtain ⟨k, hk, rfl, rfl⟩ := hrel
    have HS := Lib.hid (show minF z (k + 1) = if z.getD k 0 < minF z k then z.getD k 0 else minF z k from rfl)
    by_cases hlt : k < len
    · obtain ⟨x, rfl, hcell⟩ := HC.out k hlt
      have hw := IntWalk.i64_in ((k : Int) + 1) (by omega)
      clear hw
      generalize minF z k = m at *
      generalize z.getD k 0 = y at *
      by_cases hy : y < m
      · go_wp2
        go_round
        case rel => exact ⟨k + 1, by omega, by go_num, by rw [HS.out, if_pos hy]⟩
        case measure => simp [intOf]; omega
      · go_wp2
        go_round
        case rel => exact ⟨k + 1, by omega, by go_num, by rw [HS.out, if_neg hy]⟩
        case measure => simp [intOf]; omega
    · obtain rfl : k = len := by omega
      clear HS
      go_wp2
      go_ret
      exact ⟨rfl, rfl⟩
set_option maxHeartbeats 1000000 in
theorem rfirst_any (a : Option Addr) (len cap : Nat) (z : List Int) (w : World) (hl : len ≤ 40)
    (hc : ∀ i, i < len → ∃ x, a = some x ∧ w.cell? (x.add i) = some (.int .u64 (z.getD i 0))) :
    Calls Tryd.prog 19 #[.slice a len cap] w fun e w' => e = .returned (.int .u64 (minF z len)) ∧ w = w' := by
  have HC := Lib.hid hc
  clear hc
  go_enter Tryd.func19, Tryd.ntmps19
  go_wp2_with fail
  go_loop [3, 4] (fun m i => ∃ k : Nat, k ≤ len ∧ i = .int .i64 k ∧ m = .int .u64 (minF z k)) (fun _ i => len - (intOf i).toNat)
  case atStart => exact ⟨0, by omega, rfl, rfl⟩
  case round =>
    obtain ⟨k, hk, rfl, rfl⟩ := hrel
    have HS := Lib.hid (show minF z (k + 1) = if z.getD k 0 < minF z k then z.getD k 0 else minF z k from rfl)
    by_cases hlt : k < len
    · obtain ⟨x, rfl, hcell⟩ := HC.out k hlt
      have hw := IntWalk.i64_in ((k : Int) + 1) (by omega)
      clear hw
      generalize minF z k = m at *
      generalize z.getD k 0 = y at *
      by_cases hy : y < m
      · go_wp2
        go_round
        case rel => exact ⟨k + 1, by omega, by go_num, by rw [HS.out, if_pos hy]⟩
        case measure => simp [intOf]; omega
      · go_wp2
        go_round
        case rel => exact ⟨k + 1, by omega, by go_num, by rw [HS.out, if_neg hy]⟩
        case measure => simp [intOf]; omega
    · obtain rfl : k = len := by omega
      clear HS
      go_wp2
      go_ret
      exact ⟨rfl, rfl⟩
end Go.Proofs.YtahihfhfkjiimaaDoor.Tick
