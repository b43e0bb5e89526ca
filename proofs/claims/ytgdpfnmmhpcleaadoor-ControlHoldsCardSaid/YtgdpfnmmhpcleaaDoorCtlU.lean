/-
  Walks over Erase of package control and of the reference.
-/
import Derived.Test.YtgdpfnmmhpcleaaDoorCtlV
set_option linter.unusedVariables false
set_option linter.unusedSimpArgs false
namespace Go.Proofs.YtgdpfnmmhpcleaaDoor.Ctl
open Go.RowKit Kit
open Word hiding tr ret_int bcell
set_option maxHeartbeats 1000000 in
theorem er_inv (x l : Int) (hx : U64 x) (hv : vaB x = false) (w : World) : Calls Tryd.prog 30 #[.int .u64 x, .int .i64 l] w fun e w' => e = .returned (.tuple #[.int .u64 0, .int .i64 2]) ∧ Below w.heap.size w w' := by
  have HV := Lib.hid (valid_any x hx)
  rw [hv] at HV
  clear hv
  go_enter Tryd.func30, Tryd.ntmps30
  go_wp2_with fail
  refine (HV.out _).mono ?_
  rintro e w1 ⟨rfl, rfl⟩
  go_wp2_with fail
  go_ret2
  exact ⟨rfl, Below.refl _ _⟩
set_option maxHeartbeats 1000000 in
theorem er_out (x l : Int) (hx : U64 x) (hv : vaB x = true) (hl : l < 0 ∨ 8 ≤ l) (w : World) : Calls Tryd.prog 30 #[.int .u64 x, .int .i64 l] w fun e w' => e = .returned (.tuple #[.int .u64 0, .int .i64 3]) ∧ Below w.heap.size w w' := by
  have HV := Lib.hid (valid_any x hx)
  rw [hv] at HV
  clear hv
  have HL := Lib.hid (lane_out x l hl)
  clear hl
  go_enter Tryd.func30, Tryd.ntmps30
  go_wp2_with fail
  refine (HV.out _).mono ?_
  rintro e w1 ⟨rfl, rfl⟩
  go_wp2_with fail
  refine (HL.out _).mono ?_
  rintro e w1 ⟨rfl, rfl⟩
  go_wp2_with fail
  go_ret2
  exact ⟨rfl, Below.refl _ _⟩
set_option maxHeartbeats 1000000 in
theorem er_free (x l : Int) (hx : U64 x) (hv : vaB x = true) (l0 : 0 ≤ l) (l1 : l < 8) (hf : 127 < lane x l.toNat) (w : World) : Calls Tryd.prog 30 #[.int .u64 x, .int .i64 l] w fun e w' => e = .returned (.tuple #[.int .u64 0, .int .i64 8]) ∧ Below w.heap.size w w' := by
  have HV := Lib.hid (valid_any x hx)
  rw [hv] at HV
  clear hv
  have HL := Lib.hid (lane_any x l hx.1 hx.2 l0 l1)
  generalize lane x l.toNat = b at HL hf
  have hT := isTag_any b
  rw [show decide (b < 128) = false from by simp; omega] at hT
  have HT := Lib.hid hT
  clear hT hf
  go_enter Tryd.func30, Tryd.ntmps30
  go_wp2_with fail
  refine (HV.out _).mono ?_
  rintro e w1 ⟨rfl, rfl⟩
  go_wp2_with fail
  refine (HL.out _).mono ?_
  rintro e w1 ⟨rfl, rfl⟩
  go_wp2_with fail
  refine (HT.out _).mono ?_
  rintro e w1 ⟨rfl, rfl⟩
  go_wp2_with fail
  go_ret2
  exact ⟨rfl, Below.refl _ _⟩
set_option maxHeartbeats 1000000 in
theorem er_empty (x l : Int) (hx : U64 x) (hv : vaB x = true) (l0 : 0 ≤ l) (l1 : l < 8) (hf : ¬ 127 < lane x l.toNat) (he : emI x ≠ 0) (w : World) : Calls Tryd.prog 30 #[.int .u64 x, .int .i64 l] w fun e w' => e = .returned (.tuple #[.int .u64 (withI x l.toNat 128), .int .i64 0]) ∧ Below w.heap.size w w' := by
  have HV := Lib.hid (valid_any x hx)
  rw [hv] at HV
  clear hv
  have HL := Lib.hid (lane_any x l hx.1 hx.2 l0 l1)
  have HW := Lib.hid (with_any x l 128 hx.1 hx.2 l0 l1 (by omega) (by omega))
  generalize withI x l.toNat 128 = r at HW
  generalize lane x l.toNat = b at HL hf
  have hT := isTag_any b
  rw [show decide (b < 128) = true from by simp; omega] at hT
  have HT := Lib.hid hT
  have HE := Lib.hid (empties_any x hx)
  have hm : (emI x != 0) = true := by simpa using he
  generalize emI x = m at HE hm
  clear hT hf he
  go_enter Tryd.func30, Tryd.ntmps30
  go_wp2_with fail
  refine (HV.out _).mono ?_
  rintro e w1 ⟨rfl, rfl⟩
  go_wp2_with fail
  refine (HL.out _).mono ?_
  rintro e w1 ⟨rfl, rfl⟩
  go_wp2_with fail
  refine (HT.out _).mono ?_
  rintro e w1 ⟨rfl, rfl⟩
  go_wp2_with fail
  refine (HE.out _).mono ?_
  rintro e w1 ⟨rfl, rfl⟩
  go_wp2_with fail
  refine (HW.out _).mono ?_
  rintro e w2 ⟨rfl, q1⟩
  go_wp2_with fail
  go_ret2
  exact ⟨rfl, q1⟩
set_option maxHeartbeats 1000000 in
theorem er_del (x l : Int) (hx : U64 x) (hv : vaB x = true) (l0 : 0 ≤ l) (l1 : l < 8) (hf : ¬ 127 < lane x l.toNat) (he : emI x = 0) (w : World) : Calls Tryd.prog 30 #[.int .u64 x, .int .i64 l] w fun e w' => e = .returned (.tuple #[.int .u64 (withI x l.toNat 254), .int .i64 0]) ∧ Below w.heap.size w w' := by
  have HV := Lib.hid (valid_any x hx)
  rw [hv] at HV
  clear hv
  have HL := Lib.hid (lane_any x l hx.1 hx.2 l0 l1)
  have HW := Lib.hid (with_any x l 254 hx.1 hx.2 l0 l1 (by omega) (by omega))
  generalize withI x l.toNat 254 = r at HW
  generalize lane x l.toNat = b at HL hf
  have hT := isTag_any b
  rw [show decide (b < 128) = true from by simp; omega] at hT
  have HT := Lib.hid hT
  have HE := Lib.hid (empties_any x hx)
  have hm : (emI x != 0) = false := by simpa using he
  generalize emI x = m at HE hm
  clear hT hf he
  go_enter Tryd.func30, Tryd.ntmps30
  go_wp2_with fail
  refine (HV.out _).mono ?_
  rintro e w1 ⟨rfl, rfl⟩
  go_wp2_with fail
  refine (HL.out _).mono ?_
  rintro e w1 ⟨rfl, rfl⟩
  go_wp2_with fail
  refine (HT.out _).mono ?_
  rintro e w1 ⟨rfl, rfl⟩
  go_wp2_with fail
  refine (HE.out _).mono ?_
  rintro e w1 ⟨rfl, rfl⟩
  go_wp2_with fail
  refine (HW.out _).mono ?_
  rintro e w2 ⟨rfl, q1⟩
  go_wp2_with fail
  go_ret2
  exact ⟨rfl, q1⟩
set_option maxHeartbeats 1000000 in
theorem rer_inv (x l : Int) (hx : U64 x) (hv : vaB x = false) (w : World) : Calls Tryd.prog 31 #[.int .u64 x, .int .i64 l] w fun e w' => e = .returned (.tuple #[.int .u64 0, .int .i64 2]) ∧ Below w.heap.size w w' := by
  have HV := Lib.hid (rvalid_any x hx)
  rw [hv] at HV
  clear hv
  go_enter Tryd.func31, Tryd.ntmps31
  go_wp2_with fail
  refine (HV.out _).mono ?_
  rintro e w1 ⟨rfl, q1⟩
  go_wp2_with fail
  go_ret2
  exact ⟨rfl, q1⟩
set_option maxHeartbeats 1000000 in
theorem rer_out (x l : Int) (hx : U64 x) (hv : vaB x = true) (hl : l < 0 ∨ 8 ≤ l) (w : World) : Calls Tryd.prog 31 #[.int .u64 x, .int .i64 l] w fun e w' => e = .returned (.tuple #[.int .u64 0, .int .i64 3]) ∧ Below w.heap.size w w' := by
  have HV := Lib.hid (rvalid_any x hx)
  rw [hv] at HV
  clear hv
  by_cases hn : l < 0
  all_goals
    have h8 : ¬ l < 0 → 7 < l := by omega
    try have h9 := h8 hn
    clear h8 hl
    go_enter Tryd.func31, Tryd.ntmps31
    go_wp2_with fail
    refine (HV.out _).mono ?_
    rintro e w1 ⟨rfl, q1⟩
    go_wp2_with fail
    go_ret2
    exact ⟨rfl, q1⟩
set_option maxHeartbeats 1000000 in
theorem rer_free (x l : Int) (hx : U64 x) (hv : vaB x = true) (l0 : 0 ≤ l) (l1 : l < 8) (hf : 127 < lane x l.toNat) (w : World) : Calls Tryd.prog 31 #[.int .u64 x, .int .i64 l] w fun e w' => e = .returned (.tuple #[.int .u64 0, .int .i64 8]) ∧ Below w.heap.size w w' := by
  have HV := Lib.hid (rvalid_any x hx)
  rw [hv] at HV
  clear hv
  have HL := Lib.hid (rlane_any x l.toNat hx.1 hx.2 (by omega))
  rw [show ((l.toNat : Nat) : Int) = l from by omega] at HL
  generalize lane x l.toNat = b at HL hf
  go_enter Tryd.func31, Tryd.ntmps31
  go_wp2_with fail
  refine (HV.out _).mono ?_
  rintro e w1 ⟨rfl, q1⟩
  go_wp2_with fail
  refine (HL.out _).mono ?_
  rintro e w2 ⟨rfl, rfl⟩
  go_wp2_with fail
  go_ret2
  exact ⟨rfl, q1⟩
set_option maxHeartbeats 1000000 in
theorem rer_empty (x l : Int) (hx : U64 x) (hv : vaB x = true) (l0 : 0 ≤ l) (l1 : l < 8) (hf : ¬ 127 < lane x l.toNat) (he : emI x ≠ 0) (w : World) : Calls Tryd.prog 31 #[.int .u64 x, .int .i64 l] w fun e w' => e = .returned (.tuple #[.int .u64 (withI x l.toNat 128), .int .i64 0]) ∧ Below w.heap.size w w' := by
  have HV := Lib.hid (rvalid_any x hx)
  rw [hv] at HV
  clear hv
  have HL := Lib.hid (rlane_any x l.toNat hx.1 hx.2 (by omega))
  rw [show ((l.toNat : Nat) : Int) = l from by omega] at HL
  have HW := Lib.hid (rwith_any x l 128 hx.1 hx.2 l0 l1 (by omega) (by omega))
  generalize withI x l.toNat 128 = r at HW
  generalize lane x l.toNat = b at HL hf
  have HE := Lib.hid (rempties_any x hx)
  have hm : (emI x == 0) = false := by simpa using he
  generalize emI x = m at HE hm
  clear he
  go_enter Tryd.func31, Tryd.ntmps31
  go_wp2_with fail
  refine (HV.out _).mono ?_
  rintro e w1 ⟨rfl, q1⟩
  go_wp2_with fail
  refine (HL.out _).mono ?_
  rintro e w2 ⟨rfl, rfl⟩
  go_wp2_with fail
  refine (HE.out _).mono ?_
  rintro e w2 ⟨rfl, q2⟩
  go_wp2_with fail
  refine (HW.out _).mono ?_
  rintro e w3 ⟨rfl, q3⟩
  go_wp2_with fail
  go_ret2
  exact ⟨rfl, tr (tr q1 q2) q3⟩
set_option maxHeartbeats 1000000 in
theorem rer_del (x l : Int) (hx : U64 x) (hv : vaB x = true) (l0 : 0 ≤ l) (l1 : l < 8) (hf : ¬ 127 < lane x l.toNat) (he : emI x = 0) (w : World) : Calls Tryd.prog 31 #[.int .u64 x, .int .i64 l] w fun e w' => e = .returned (.tuple #[.int .u64 (withI x l.toNat 254), .int .i64 0]) ∧ Below w.heap.size w w' := by
  have HV := Lib.hid (rvalid_any x hx)
  rw [hv] at HV
  clear hv
  have HL := Lib.hid (rlane_any x l.toNat hx.1 hx.2 (by omega))
  rw [show ((l.toNat : Nat) : Int) = l from by omega] at HL
  have HW := Lib.hid (rwith_any x l 254 hx.1 hx.2 l0 l1 (by omega) (by omega))
  generalize withI x l.toNat 254 = r at HW
  generalize lane x l.toNat = b at HL hf
  have HE := Lib.hid (rempties_any x hx)
  have hm : (emI x == 0) = true := by simpa using he
  generalize emI x = m at HE hm
  clear he
  go_enter Tryd.func31, Tryd.ntmps31
  go_wp2_with fail
  refine (HV.out _).mono ?_
  rintro e w1 ⟨rfl, q1⟩
  go_wp2_with fail
  refine (HL.out _).mono ?_
  rintro e w2 ⟨rfl, rfl⟩
  go_wp2_with fail
  refine (HE.out _).mono ?_
  rintro e w2 ⟨rfl, q2⟩
  go_wp2_with fail
  refine (HW.out _).mono ?_
  rintro e w3 ⟨rfl, q3⟩
  go_wp2_with fail
  go_ret2
  exact ⟨rfl, tr (tr q1 q2) q3⟩
end Go.Proofs.YtgdpfnmmhpcleaaDoor.Ctl
