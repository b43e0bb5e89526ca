/-
  The theorem of layer 5, walked.
-/
import Derived.Test.YtgdpfnmmhpcleaaDoorCtlT
import Derived.Test.YtgdpfnmmhpcleaaDoorCtlM
set_option linter.unusedVariables false
set_option linter.unusedSimpArgs false
namespace Go.Proofs.YtgdpfnmmhpcleaaDoor.Ctl
open Go.RowKit Kit
open Word hiding tr ret_int bcell
theorem bit_same (v c j : Int) (l : Nat) (h0 : 0 ≤ v) (h : v / 2 ^ l % 2 = if j = c then 1 else 0) : (!((v / 2 ^ l).tmod 2 == 1) == (j == c)) = false := by
  have hp : 0 ≤ v / 2 ^ l := Int.ediv_nonneg h0 (by exact_mod_cast Nat.zero_le _)
  rw [Int.tmod_eq_emod_of_nonneg hp, h]
  by_cases e : j = c
  · simp [e]
  · simp [e]
theorem fr_with' (x b : Int) (l : Nat) (hx : U64 x) (hl : l < 8) (hb : b = 128 ∨ b = 254) : (frI (withI x l b) != bits .or .u8 (frI x) (2 ^ l % 256)) = false := by
  rw [fr_with x b l hx hl hb, show (2 : Int) ^ l % 256 = 2 ^ l from by obtain rfl | rfl | rfl | rfl | rfl | rfl | rfl | rfl := eight l hl <;> rfl]
  simp
set_option maxHeartbeats 4000000 in
set_option maxRecDepth 100000 in
theorem holds_inv (x l c : Int) (hx : U64 x) (hv : vaB x = false) (w : World) (hk : Known w) : Calls Tryd.prog 6 #[.int .u64 x, .int .i64 l, .int .u8 c] w fun e w' => e = .returned (.bool true) ∧ Below w.heap.size w w' := by
  have HK := Lib.hid hk
  clear hk
  have HV := Lib.hid (valid_any x hx)
  rw [hv] at HV
  go_enter Tryd.func6, Tryd.ntmps6
  go_wp2_with fail
  refine (HV.out _).mono ?_
  rintro e w1 ⟨rfl, rfl⟩
  go_wp2_with fail
  refine (HK.out _ (Below.refl _ _)).mono ?_
  rintro e w9 ⟨rfl, q9⟩
  go_wp2_with fail
  go_ret
  exact ⟨rfl, q9⟩
set_option maxHeartbeats 4000000 in
set_option maxRecDepth 100000 in
theorem holds_out_bad (x l c : Int) (hx : U64 x) (c0 : 0 ≤ c) (c1 : c < 256) (hv : vaB x = true) (hl : l < 0 ∨ 8 ≤ l) (hc : okB c = false) (w : World) (hk : Known w) : Calls Tryd.prog 6 #[.int .u64 x, .int .i64 l, .int .u8 c] w fun e w' => e = .returned (.bool true) ∧ Below w.heap.size w w' := by
  have HK := Lib.hid hk
  clear hk
  have HV := Lib.hid (valid_any x hx)
  rw [hv] at HV
  have HF := Lib.hid (free_any x hx)
  have HU := Lib.hid (full_any x hx)
  have HE := Lib.hid (empties_any x hx)
  have F1 := Lib.hid (fr_and x)
  have F2 := Lib.hid (fr_all x hv)
  have F3 := Lib.hid (em_andNot x)
  have HR := Lib.hid (er_out x l hx hv hl)
  have HS := Lib.hid (set_bad x l c hx c0 c1 hv hc)
  generalize emI x = e1 at *
  generalize frI x = f1 at *
  generalize fuI x = u1 at *
  clear hv hc hl
  have g1 := F1.out
  have g2 := F2.out
  have g3 := F3.out
  go_enter Tryd.func6, Tryd.ntmps6
  go_wp2_with fail
  refine (HV.out _).mono ?_
  rintro e w1 ⟨rfl, rfl⟩
  go_wp2_with (first
    | (go_at_call 21; refine (HF.out _).mono ?_; rintro e w' ⟨rfl, rfl⟩)
    | (go_at_call 23; refine (HU.out _).mono ?_; rintro e w' ⟨rfl, rfl⟩)
    | (go_at_call 19; refine (HE.out _).mono ?_; rintro e w' ⟨rfl, rfl⟩))
  refine (HR.out _).mono ?_
  rintro e w2 ⟨rfl, q1⟩
  go_wp2_with fail
  refine (HS.out _).mono ?_
  rintro e w3 ⟨rfl, q2⟩
  go_wp2_with fail
  refine (HK.out _ (tr q1 q2)).mono ?_
  rintro e w5 ⟨rfl, q3⟩
  go_wp2_with fail
  go_ret
  exact ⟨rfl, tr (tr q1 q2) q3⟩
set_option maxHeartbeats 4000000 in
set_option maxRecDepth 100000 in
theorem holds_out_out (x l c : Int) (hx : U64 x) (c0 : 0 ≤ c) (c1 : c < 256) (hv : vaB x = true) (hl : l < 0 ∨ 8 ≤ l) (hc : okB c = true) (w : World) (hk : Known w) : Calls Tryd.prog 6 #[.int .u64 x, .int .i64 l, .int .u8 c] w fun e w' => e = .returned (.bool true) ∧ Below w.heap.size w w' := by
  have HK := Lib.hid hk
  clear hk
  have HV := Lib.hid (valid_any x hx)
  rw [hv] at HV
  have HF := Lib.hid (free_any x hx)
  have HU := Lib.hid (full_any x hx)
  have HE := Lib.hid (empties_any x hx)
  have F1 := Lib.hid (fr_and x)
  have F2 := Lib.hid (fr_all x hv)
  have F3 := Lib.hid (em_andNot x)
  have HR := Lib.hid (er_out x l hx hv hl)
  have HS := Lib.hid (set_out x l c hx c0 c1 hv hc hl)
  generalize emI x = e1 at *
  generalize frI x = f1 at *
  generalize fuI x = u1 at *
  clear hv hc hl
  have g1 := F1.out
  have g2 := F2.out
  have g3 := F3.out
  go_enter Tryd.func6, Tryd.ntmps6
  go_wp2_with fail
  refine (HV.out _).mono ?_
  rintro e w1 ⟨rfl, rfl⟩
  go_wp2_with (first
    | (go_at_call 21; refine (HF.out _).mono ?_; rintro e w' ⟨rfl, rfl⟩)
    | (go_at_call 23; refine (HU.out _).mono ?_; rintro e w' ⟨rfl, rfl⟩)
    | (go_at_call 19; refine (HE.out _).mono ?_; rintro e w' ⟨rfl, rfl⟩))
  refine (HR.out _).mono ?_
  rintro e w2 ⟨rfl, q1⟩
  go_wp2_with fail
  refine (HS.out _).mono ?_
  rintro e w3 ⟨rfl, q2⟩
  go_wp2_with fail
  refine (HK.out _ (tr q1 q2)).mono ?_
  rintro e w5 ⟨rfl, q3⟩
  go_wp2_with fail
  go_ret
  exact ⟨rfl, tr (tr q1 q2) q3⟩
set_option maxHeartbeats 4000000 in
set_option maxRecDepth 100000 in
theorem holds_free_ok (x l c : Int) (hx : U64 x) (c0 : 0 ≤ c) (c1 : c < 256) (hv : vaB x = true) (l0 : 0 ≤ l) (l1 : l < 8) (hf : 127 < lane x l.toNat) (hc : okB c = true) (w : World) (hk : Known w) : Calls Tryd.prog 6 #[.int .u64 x, .int .i64 l, .int .u8 c] w fun e w' => e = .returned (.bool true) ∧ Below w.heap.size w w' := by
  have HK := Lib.hid hk
  clear hk
  have HV := Lib.hid (valid_any x hx)
  rw [hv] at HV
  have HF := Lib.hid (free_any x hx)
  have HU := Lib.hid (full_any x hx)
  have HE := Lib.hid (empties_any x hx)
  have F1 := Lib.hid (fr_and x)
  have F2 := Lib.hid (fr_all x hv)
  have F3 := Lib.hid (em_andNot x)
  have HR := Lib.hid (er_free x l hx hv l0 l1 hf)
  have HS := Lib.hid (set_ok x l c hx c0 c1 hv hc l0 l1)
  have HM := Lib.hid fun (t : Int) (ht : 0 ≤ t ∧ t < 128) => match_any' _ t (with_word x c l.toNat hx (by omega) c0 c1) ht.1 (by omega)
  have HT := Lib.hid fun (t : Int) (ht : t < 128) => ma_with x c t l.toNat hx (by omega) c0 c1 ht
  generalize emI x = e1 at *
  generalize frI x = f1 at *
  generalize fuI x = u1 at *
  generalize hzz : withI x l.toNat c = z at *
  clear hv hc hzz hf
  have g1 := F1.out
  have g2 := F2.out
  have g3 := F3.out
  go_enter Tryd.func6, Tryd.ntmps6
  go_wp2_with fail
  refine (HV.out _).mono ?_
  rintro e w1 ⟨rfl, rfl⟩
  go_wp2_with (first
    | (go_at_call 21; refine (HF.out _).mono ?_; rintro e w' ⟨rfl, rfl⟩)
    | (go_at_call 23; refine (HU.out _).mono ?_; rintro e w' ⟨rfl, rfl⟩)
    | (go_at_call 19; refine (HE.out _).mono ?_; rintro e w' ⟨rfl, rfl⟩))
  refine (HR.out _).mono ?_
  rintro e w2 ⟨rfl, q1⟩
  go_wp2_with fail
  refine (HS.out _).mono ?_
  rintro e w3 ⟨rfl, q2⟩
  go_wp2_with fail
  go_loop [12] (fun i => ∃ j : Nat, j ≤ 128 ∧ i = .int .i64 j) (fun i => 128 - (intOf i).toNat)
  case atStart => exact ⟨0, by omega, rfl⟩
  case round =>
    obtain ⟨j, hj, rfl⟩ := hrel
    by_cases hlt : j < 128
    · have hv := bit_same _ c j _ (ma_bd z j).1 (HT.out j (by omega))
      have HMJ := Lib.hid (HM.out j ⟨by omega, by omega⟩)
      generalize maI z j = v at hv HMJ
      go_wp2_with fail
      refine (HMJ.out _).mono ?_
      rintro e w4 ⟨rfl, rfl⟩
      go_wp2_with fail
      go_round
      case rel => exact ⟨j + 1, by omega, by go_num⟩
      case measure => simp [intOf]; omega
    · obtain rfl : j = 128 := by omega
      go_wp2_with fail
      refine (HK.out _ (tr q1 q2)).mono ?_
      rintro e w5 ⟨rfl, q3⟩
      go_wp2_with fail
      go_ret
      exact ⟨rfl, tr (tr q1 q2) q3⟩
set_option maxHeartbeats 4000000 in
set_option maxRecDepth 100000 in
theorem holds_free_bad (x l c : Int) (hx : U64 x) (c0 : 0 ≤ c) (c1 : c < 256) (hv : vaB x = true) (l0 : 0 ≤ l) (l1 : l < 8) (hf : 127 < lane x l.toNat) (hc : okB c = false) (w : World) (hk : Known w) : Calls Tryd.prog 6 #[.int .u64 x, .int .i64 l, .int .u8 c] w fun e w' => e = .returned (.bool true) ∧ Below w.heap.size w w' := by
  have HK := Lib.hid hk
  clear hk
  have HV := Lib.hid (valid_any x hx)
  rw [hv] at HV
  have HF := Lib.hid (free_any x hx)
  have HU := Lib.hid (full_any x hx)
  have HE := Lib.hid (empties_any x hx)
  have F1 := Lib.hid (fr_and x)
  have F2 := Lib.hid (fr_all x hv)
  have F3 := Lib.hid (em_andNot x)
  have HR := Lib.hid (er_free x l hx hv l0 l1 hf)
  have HS := Lib.hid (set_bad x l c hx c0 c1 hv hc)
  generalize emI x = e1 at *
  generalize frI x = f1 at *
  generalize fuI x = u1 at *
  clear hv hc hf
  have g1 := F1.out
  have g2 := F2.out
  have g3 := F3.out
  go_enter Tryd.func6, Tryd.ntmps6
  go_wp2_with fail
  refine (HV.out _).mono ?_
  rintro e w1 ⟨rfl, rfl⟩
  go_wp2_with (first
    | (go_at_call 21; refine (HF.out _).mono ?_; rintro e w' ⟨rfl, rfl⟩)
    | (go_at_call 23; refine (HU.out _).mono ?_; rintro e w' ⟨rfl, rfl⟩)
    | (go_at_call 19; refine (HE.out _).mono ?_; rintro e w' ⟨rfl, rfl⟩))
  refine (HR.out _).mono ?_
  rintro e w2 ⟨rfl, q1⟩
  go_wp2_with fail
  refine (HS.out _).mono ?_
  rintro e w3 ⟨rfl, q2⟩
  go_wp2_with fail
  refine (HK.out _ (tr q1 q2)).mono ?_
  rintro e w5 ⟨rfl, q3⟩
  go_wp2_with fail
  go_ret
  exact ⟨rfl, tr (tr q1 q2) q3⟩
set_option maxHeartbeats 4000000 in
set_option maxRecDepth 100000 in
theorem holds_del_ok (x l c : Int) (hx : U64 x) (c0 : 0 ≤ c) (c1 : c < 256) (hv : vaB x = true) (l0 : 0 ≤ l) (l1 : l < 8) (hf : ¬ 127 < lane x l.toNat) (he : emI x = 0) (hc : okB c = true) (w : World) (hk : Known w) : Calls Tryd.prog 6 #[.int .u64 x, .int .i64 l, .int .u8 c] w fun e w' => e = .returned (.bool true) ∧ Below w.heap.size w w' := by
  have HK := Lib.hid hk
  clear hk
  have HV := Lib.hid (valid_any x hx)
  rw [hv] at HV
  have HF := Lib.hid (free_any x hx)
  have HU := Lib.hid (full_any x hx)
  have HE := Lib.hid (empties_any x hx)
  have F1 := Lib.hid (fr_and x)
  have F2 := Lib.hid (fr_all x hv)
  have F3 := Lib.hid (em_andNot x)
  have hy := with_word x 254 l.toNat hx (by omega) (by omega) (by omega)
  have HV2 := Lib.hid (valid_any _ hy)
  rw [va_with x 254 l.toNat hx (by omega) (by omega) (by omega) hv rfl] at HV2
  have HE2 := Lib.hid (empties_any _ hy)
  have HF2 := Lib.hid (free_any _ hy)
  have F4 := Lib.hid (fr_with' x 254 l.toNat hx (by omega) (.inr rfl))
  have HL := Lib.hid fun (i : Nat) (hi : i < 8) => lane_with x 254 l.toNat i hx (by omega) hi (by omega) (by omega)
  have HR := Lib.hid (er_del x l hx hv l0 l1 hf he)
  have HS := Lib.hid (set_ok x l c hx c0 c1 hv hc l0 l1)
  have HM := Lib.hid fun (t : Int) (ht : 0 ≤ t ∧ t < 128) => match_any' _ t (with_word x c l.toNat hx (by omega) c0 c1) ht.1 (by omega)
  have HT := Lib.hid fun (t : Int) (ht : t < 128) => ma_with x c t l.toNat hx (by omega) c0 c1 ht
  rw [he] at HE F3
  rw [em_del x l.toNat hx (by omega) he] at HE2
  generalize frI (withI x l.toNat 254) = f2 at *
  generalize frI x = f1 at *
  generalize fuI x = u1 at *
  generalize hyy : withI x l.toNat 254 = y at *
  generalize hzz : withI x l.toNat c = z at *
  clear hv hc hyy hzz hf he
  have g1 := F1.out
  have g2 := F2.out
  have g3 := F3.out
  have g4 := F4.out
  go_enter Tryd.func6, Tryd.ntmps6
  go_wp2_with fail
  refine (HV.out _).mono ?_
  rintro e w1 ⟨rfl, rfl⟩
  go_wp2_with (first
    | (go_at_call 21; refine (HF.out _).mono ?_; rintro e w' ⟨rfl, rfl⟩)
    | (go_at_call 23; refine (HU.out _).mono ?_; rintro e w' ⟨rfl, rfl⟩)
    | (go_at_call 19; refine (HE.out _).mono ?_; rintro e w' ⟨rfl, rfl⟩))
  refine (HR.out _).mono ?_
  rintro e w2 ⟨rfl, q1⟩
  go_wp2_with (first
    | (go_at_call 15; refine (HV2.out _).mono ?_; rintro e w' ⟨rfl, rfl⟩)
    | (go_at_call 19; refine (HE2.out _).mono ?_; rintro e w' ⟨rfl, rfl⟩)
    | (go_at_call 19; refine (HE.out _).mono ?_; rintro e w' ⟨rfl, rfl⟩)
    | (go_at_call 21; refine (HF2.out _).mono ?_; rintro e w' ⟨rfl, rfl⟩)
    | (go_at_call 21; refine (HF.out _).mono ?_; rintro e w' ⟨rfl, rfl⟩))
  go_loop [9] (fun i => ∃ j : Nat, j ≤ 8 ∧ i = .int .i64 j) (fun i => 8 - (intOf i).toNat)
  case atStart => exact ⟨0, by omega, rfl⟩
  case round =>
    obtain ⟨j, hj, rfl⟩ := hrel
    by_cases hlt : j < 8
    · by_cases hjl : (j : Int) = l
      · have hb : ((j : Int) != l) = false := by simp [hjl]
        go_wp2_with fail
        go_round
        case rel => exact ⟨j + 1, by omega, by go_num⟩
        case measure => simp [intOf]; omega
      · have hb : ((j : Int) != l) = true := by simp [hjl]
        have hly := rlane_any y j hy.1 hy.2 (by omega)
        rw [HL.out j hlt, if_neg (by omega)] at hly
        have HLY := Lib.hid hly
        have HLX := Lib.hid (rlane_any x j hx.1 hx.2 (by omega))
        clear hly
        generalize lane x j = v at HLX HLY
        go_wp2_with fail
        refine (HLY.out _).mono ?_
        rintro e w' ⟨rfl, rfl⟩
        go_wp2_with fail
        refine (HLX.out _).mono ?_
        rintro e w' ⟨rfl, rfl⟩
        go_wp2_with fail
        go_round
        case rel => exact ⟨j + 1, by omega, by go_num⟩
        case measure => simp [intOf]; omega
    · obtain rfl : j = 8 := by omega
      go_wp2_with fail
      refine (HS.out _).mono ?_
      rintro e w3 ⟨rfl, q2⟩
      go_wp2_with fail
      go_loop [12] (fun i => ∃ j : Nat, j ≤ 128 ∧ i = .int .i64 j) (fun i => 128 - (intOf i).toNat)
      case atStart => exact ⟨0, by omega, rfl⟩
      case round =>
        obtain ⟨j, hj, rfl⟩ := hrel
        by_cases hlt : j < 128
        · have hv := bit_same _ c j _ (ma_bd z j).1 (HT.out j (by omega))
          have HMJ := Lib.hid (HM.out j ⟨by omega, by omega⟩)
          generalize maI z j = v at hv HMJ
          go_wp2_with fail
          refine (HMJ.out _).mono ?_
          rintro e w4 ⟨rfl, rfl⟩
          go_wp2_with fail
          go_round
          case rel => exact ⟨j + 1, by omega, by go_num⟩
          case measure => simp [intOf]; omega
        · obtain rfl : j = 128 := by omega
          go_wp2_with fail
          refine (HK.out _ (tr q1 q2)).mono ?_
          rintro e w5 ⟨rfl, q3⟩
          go_wp2_with fail
          go_ret
          exact ⟨rfl, tr (tr q1 q2) q3⟩
set_option maxHeartbeats 4000000 in
set_option maxRecDepth 100000 in
theorem holds_del_bad (x l c : Int) (hx : U64 x) (c0 : 0 ≤ c) (c1 : c < 256) (hv : vaB x = true) (l0 : 0 ≤ l) (l1 : l < 8) (hf : ¬ 127 < lane x l.toNat) (he : emI x = 0) (hc : okB c = false) (w : World) (hk : Known w) : Calls Tryd.prog 6 #[.int .u64 x, .int .i64 l, .int .u8 c] w fun e w' => e = .returned (.bool true) ∧ Below w.heap.size w w' := by
  have HK := Lib.hid hk
  clear hk
  have HV := Lib.hid (valid_any x hx)
  rw [hv] at HV
  have HF := Lib.hid (free_any x hx)
  have HU := Lib.hid (full_any x hx)
  have HE := Lib.hid (empties_any x hx)
  have F1 := Lib.hid (fr_and x)
  have F2 := Lib.hid (fr_all x hv)
  have F3 := Lib.hid (em_andNot x)
  have hy := with_word x 254 l.toNat hx (by omega) (by omega) (by omega)
  have HV2 := Lib.hid (valid_any _ hy)
  rw [va_with x 254 l.toNat hx (by omega) (by omega) (by omega) hv rfl] at HV2
  have HE2 := Lib.hid (empties_any _ hy)
  have HF2 := Lib.hid (free_any _ hy)
  have F4 := Lib.hid (fr_with' x 254 l.toNat hx (by omega) (.inr rfl))
  have HL := Lib.hid fun (i : Nat) (hi : i < 8) => lane_with x 254 l.toNat i hx (by omega) hi (by omega) (by omega)
  have HR := Lib.hid (er_del x l hx hv l0 l1 hf he)
  have HS := Lib.hid (set_bad x l c hx c0 c1 hv hc)
  rw [he] at HE F3
  rw [em_del x l.toNat hx (by omega) he] at HE2
  generalize frI (withI x l.toNat 254) = f2 at *
  generalize frI x = f1 at *
  generalize fuI x = u1 at *
  generalize hyy : withI x l.toNat 254 = y at *
  clear hv hc hyy hf he
  have g1 := F1.out
  have g2 := F2.out
  have g3 := F3.out
  have g4 := F4.out
  go_enter Tryd.func6, Tryd.ntmps6
  go_wp2_with fail
  refine (HV.out _).mono ?_
  rintro e w1 ⟨rfl, rfl⟩
  go_wp2_with (first
    | (go_at_call 21; refine (HF.out _).mono ?_; rintro e w' ⟨rfl, rfl⟩)
    | (go_at_call 23; refine (HU.out _).mono ?_; rintro e w' ⟨rfl, rfl⟩)
    | (go_at_call 19; refine (HE.out _).mono ?_; rintro e w' ⟨rfl, rfl⟩))
  refine (HR.out _).mono ?_
  rintro e w2 ⟨rfl, q1⟩
  go_wp2_with (first
    | (go_at_call 15; refine (HV2.out _).mono ?_; rintro e w' ⟨rfl, rfl⟩)
    | (go_at_call 19; refine (HE2.out _).mono ?_; rintro e w' ⟨rfl, rfl⟩)
    | (go_at_call 19; refine (HE.out _).mono ?_; rintro e w' ⟨rfl, rfl⟩)
    | (go_at_call 21; refine (HF2.out _).mono ?_; rintro e w' ⟨rfl, rfl⟩)
    | (go_at_call 21; refine (HF.out _).mono ?_; rintro e w' ⟨rfl, rfl⟩))
  go_loop [9] (fun i => ∃ j : Nat, j ≤ 8 ∧ i = .int .i64 j) (fun i => 8 - (intOf i).toNat)
  case atStart => exact ⟨0, by omega, rfl⟩
  case round =>
    obtain ⟨j, hj, rfl⟩ := hrel
    by_cases hlt : j < 8
    · by_cases hjl : (j : Int) = l
      · have hb : ((j : Int) != l) = false := by simp [hjl]
        go_wp2_with fail
        go_round
        case rel => exact ⟨j + 1, by omega, by go_num⟩
        case measure => simp [intOf]; omega
      · have hb : ((j : Int) != l) = true := by simp [hjl]
        have hly := rlane_any y j hy.1 hy.2 (by omega)
        rw [HL.out j hlt, if_neg (by omega)] at hly
        have HLY := Lib.hid hly
        have HLX := Lib.hid (rlane_any x j hx.1 hx.2 (by omega))
        clear hly
        generalize lane x j = v at HLX HLY
        go_wp2_with fail
        refine (HLY.out _).mono ?_
        rintro e w' ⟨rfl, rfl⟩
        go_wp2_with fail
        refine (HLX.out _).mono ?_
        rintro e w' ⟨rfl, rfl⟩
        go_wp2_with fail
        go_round
        case rel => exact ⟨j + 1, by omega, by go_num⟩
        case measure => simp [intOf]; omega
    · obtain rfl : j = 8 := by omega
      go_wp2_with fail
      refine (HS.out _).mono ?_
      rintro e w3 ⟨rfl, q2⟩
      go_wp2_with fail
      refine (HK.out _ (tr q1 q2)).mono ?_
      rintro e w5 ⟨rfl, q3⟩
      go_wp2_with fail
      go_ret
      exact ⟨rfl, tr (tr q1 q2) q3⟩
set_option maxHeartbeats 4000000 in
set_option maxRecDepth 100000 in
theorem holds_emp_ok (x l c : Int) (hx : U64 x) (c0 : 0 ≤ c) (c1 : c < 256) (hv : vaB x = true) (l0 : 0 ≤ l) (l1 : l < 8) (hf : ¬ 127 < lane x l.toNat) (he : emI x ≠ 0) (hc : okB c = true) (w : World) (hk : Known w) : Calls Tryd.prog 6 #[.int .u64 x, .int .i64 l, .int .u8 c] w fun e w' => e = .returned (.bool true) ∧ Below w.heap.size w w' := by
  have HK := Lib.hid hk
  clear hk
  have HV := Lib.hid (valid_any x hx)
  rw [hv] at HV
  have HF := Lib.hid (free_any x hx)
  have HU := Lib.hid (full_any x hx)
  have HE := Lib.hid (empties_any x hx)
  have F1 := Lib.hid (fr_and x)
  have F2 := Lib.hid (fr_all x hv)
  have F3 := Lib.hid (em_andNot x)
  have hy := with_word x 128 l.toNat hx (by omega) (by omega) (by omega)
  have HV2 := Lib.hid (valid_any _ hy)
  rw [va_with x 128 l.toNat hx (by omega) (by omega) (by omega) hv rfl] at HV2
  have HE2 := Lib.hid (empties_any _ hy)
  have HF2 := Lib.hid (free_any _ hy)
  have F4 := Lib.hid (fr_with' x 128 l.toNat hx (by omega) (.inl rfl))
  have HL := Lib.hid fun (i : Nat) (hi : i < 8) => lane_with x 128 l.toNat i hx (by omega) hi (by omega) (by omega)
  have HR := Lib.hid (er_empty x l hx hv l0 l1 hf he)
  have HS := Lib.hid (set_ok x l c hx c0 c1 hv hc l0 l1)
  have HM := Lib.hid fun (t : Int) (ht : 0 ≤ t ∧ t < 128) => match_any' _ t (with_word x c l.toNat hx (by omega) c0 c1) ht.1 (by omega)
  have HT := Lib.hid fun (t : Int) (ht : t < 128) => ma_with x c t l.toNat hx (by omega) c0 c1 ht
  have m1 : (emI x != 0) = true := by simpa using he
  have m2 : (emI (withI x l.toNat 128) != 0) = true := by simpa using em_emp x l.toNat hx (by omega)
  generalize emI (withI x l.toNat 128) = e2 at HE2 m2
  generalize emI x = e1 at *
  generalize frI (withI x l.toNat 128) = f2 at *
  generalize frI x = f1 at *
  generalize fuI x = u1 at *
  generalize hyy : withI x l.toNat 128 = y at *
  generalize hzz : withI x l.toNat c = z at *
  clear hv hc hyy hzz hf he
  have g1 := F1.out
  have g2 := F2.out
  have g3 := F3.out
  have g4 := F4.out
  go_enter Tryd.func6, Tryd.ntmps6
  go_wp2_with fail
  refine (HV.out _).mono ?_
  rintro e w1 ⟨rfl, rfl⟩
  go_wp2_with (first
    | (go_at_call 21; refine (HF.out _).mono ?_; rintro e w' ⟨rfl, rfl⟩)
    | (go_at_call 23; refine (HU.out _).mono ?_; rintro e w' ⟨rfl, rfl⟩)
    | (go_at_call 19; refine (HE.out _).mono ?_; rintro e w' ⟨rfl, rfl⟩))
  refine (HR.out _).mono ?_
  rintro e w2 ⟨rfl, q1⟩
  go_wp2_with (first
    | (go_at_call 15; refine (HV2.out _).mono ?_; rintro e w' ⟨rfl, rfl⟩)
    | (go_at_call 19; refine (HE2.out _).mono ?_; rintro e w' ⟨rfl, rfl⟩)
    | (go_at_call 19; refine (HE.out _).mono ?_; rintro e w' ⟨rfl, rfl⟩)
    | (go_at_call 21; refine (HF2.out _).mono ?_; rintro e w' ⟨rfl, rfl⟩)
    | (go_at_call 21; refine (HF.out _).mono ?_; rintro e w' ⟨rfl, rfl⟩))
  go_loop [9] (fun i => ∃ j : Nat, j ≤ 8 ∧ i = .int .i64 j) (fun i => 8 - (intOf i).toNat)
  case atStart => exact ⟨0, by omega, rfl⟩
  case round =>
    obtain ⟨j, hj, rfl⟩ := hrel
    by_cases hlt : j < 8
    · by_cases hjl : (j : Int) = l
      · have hb : ((j : Int) != l) = false := by simp [hjl]
        go_wp2_with fail
        go_round
        case rel => exact ⟨j + 1, by omega, by go_num⟩
        case measure => simp [intOf]; omega
      · have hb : ((j : Int) != l) = true := by simp [hjl]
        have hly := rlane_any y j hy.1 hy.2 (by omega)
        rw [HL.out j hlt, if_neg (by omega)] at hly
        have HLY := Lib.hid hly
        have HLX := Lib.hid (rlane_any x j hx.1 hx.2 (by omega))
        clear hly
        generalize lane x j = v at HLX HLY
        go_wp2_with fail
        refine (HLY.out _).mono ?_
        rintro e w' ⟨rfl, rfl⟩
        go_wp2_with fail
        refine (HLX.out _).mono ?_
        rintro e w' ⟨rfl, rfl⟩
        go_wp2_with fail
        go_round
        case rel => exact ⟨j + 1, by omega, by go_num⟩
        case measure => simp [intOf]; omega
    · obtain rfl : j = 8 := by omega
      go_wp2_with fail
      refine (HS.out _).mono ?_
      rintro e w3 ⟨rfl, q2⟩
      go_wp2_with fail
      go_loop [12] (fun i => ∃ j : Nat, j ≤ 128 ∧ i = .int .i64 j) (fun i => 128 - (intOf i).toNat)
      case atStart => exact ⟨0, by omega, rfl⟩
      case round =>
        obtain ⟨j, hj, rfl⟩ := hrel
        by_cases hlt : j < 128
        · have hv := bit_same _ c j _ (ma_bd z j).1 (HT.out j (by omega))
          have HMJ := Lib.hid (HM.out j ⟨by omega, by omega⟩)
          generalize maI z j = v at hv HMJ
          go_wp2_with fail
          refine (HMJ.out _).mono ?_
          rintro e w4 ⟨rfl, rfl⟩
          go_wp2_with fail
          go_round
          case rel => exact ⟨j + 1, by omega, by go_num⟩
          case measure => simp [intOf]; omega
        · obtain rfl : j = 128 := by omega
          go_wp2_with fail
          refine (HK.out _ (tr q1 q2)).mono ?_
          rintro e w5 ⟨rfl, q3⟩
          go_wp2_with fail
          go_ret
          exact ⟨rfl, tr (tr q1 q2) q3⟩
set_option maxHeartbeats 4000000 in
set_option maxRecDepth 100000 in
theorem holds_emp_bad (x l c : Int) (hx : U64 x) (c0 : 0 ≤ c) (c1 : c < 256) (hv : vaB x = true) (l0 : 0 ≤ l) (l1 : l < 8) (hf : ¬ 127 < lane x l.toNat) (he : emI x ≠ 0) (hc : okB c = false) (w : World) (hk : Known w) : Calls Tryd.prog 6 #[.int .u64 x, .int .i64 l, .int .u8 c] w fun e w' => e = .returned (.bool true) ∧ Below w.heap.size w w' := by
  have HK := Lib.hid hk
  clear hk
  have HV := Lib.hid (valid_any x hx)
  rw [hv] at HV
  have HF := Lib.hid (free_any x hx)
  have HU := Lib.hid (full_any x hx)
  have HE := Lib.hid (empties_any x hx)
  have F1 := Lib.hid (fr_and x)
  have F2 := Lib.hid (fr_all x hv)
  have F3 := Lib.hid (em_andNot x)
  have hy := with_word x 128 l.toNat hx (by omega) (by omega) (by omega)
  have HV2 := Lib.hid (valid_any _ hy)
  rw [va_with x 128 l.toNat hx (by omega) (by omega) (by omega) hv rfl] at HV2
  have HE2 := Lib.hid (empties_any _ hy)
  have HF2 := Lib.hid (free_any _ hy)
  have F4 := Lib.hid (fr_with' x 128 l.toNat hx (by omega) (.inl rfl))
  have HL := Lib.hid fun (i : Nat) (hi : i < 8) => lane_with x 128 l.toNat i hx (by omega) hi (by omega) (by omega)
  have HR := Lib.hid (er_empty x l hx hv l0 l1 hf he)
  have HS := Lib.hid (set_bad x l c hx c0 c1 hv hc)
  have m1 : (emI x != 0) = true := by simpa using he
  have m2 : (emI (withI x l.toNat 128) != 0) = true := by simpa using em_emp x l.toNat hx (by omega)
  generalize emI (withI x l.toNat 128) = e2 at HE2 m2
  generalize emI x = e1 at *
  generalize frI (withI x l.toNat 128) = f2 at *
  generalize frI x = f1 at *
  generalize fuI x = u1 at *
  generalize hyy : withI x l.toNat 128 = y at *
  clear hv hc hyy hf he
  have g1 := F1.out
  have g2 := F2.out
  have g3 := F3.out
  have g4 := F4.out
  go_enter Tryd.func6, Tryd.ntmps6
  go_wp2_with fail
  refine (HV.out _).mono ?_
  rintro e w1 ⟨rfl, rfl⟩
  go_wp2_with (first
    | (go_at_call 21; refine (HF.out _).mono ?_; rintro e w' ⟨rfl, rfl⟩)
    | (go_at_call 23; refine (HU.out _).mono ?_; rintro e w' ⟨rfl, rfl⟩)
    | (go_at_call 19; refine (HE.out _).mono ?_; rintro e w' ⟨rfl, rfl⟩))
  refine (HR.out _).mono ?_
  rintro e w2 ⟨rfl, q1⟩
  go_wp2_with (first
    | (go_at_call 15; refine (HV2.out _).mono ?_; rintro e w' ⟨rfl, rfl⟩)
    | (go_at_call 19; refine (HE2.out _).mono ?_; rintro e w' ⟨rfl, rfl⟩)
    | (go_at_call 19; refine (HE.out _).mono ?_; rintro e w' ⟨rfl, rfl⟩)
    | (go_at_call 21; refine (HF2.out _).mono ?_; rintro e w' ⟨rfl, rfl⟩)
    | (go_at_call 21; refine (HF.out _).mono ?_; rintro e w' ⟨rfl, rfl⟩))
  go_loop [9] (fun i => ∃ j : Nat, j ≤ 8 ∧ i = .int .i64 j) (fun i => 8 - (intOf i).toNat)
  case atStart => exact ⟨0, by omega, rfl⟩
  case round =>
    obtain ⟨j, hj, rfl⟩ := hrel
    by_cases hlt : j < 8
    · by_cases hjl : (j : Int) = l
      · have hb : ((j : Int) != l) = false := by simp [hjl]
        go_wp2_with fail
        go_round
        case rel => exact ⟨j + 1, by omega, by go_num⟩
        case measure => simp [intOf]; omega
      · have hb : ((j : Int) != l) = true := by simp [hjl]
        have hly := rlane_any y j hy.1 hy.2 (by omega)
        rw [HL.out j hlt, if_neg (by omega)] at hly
        have HLY := Lib.hid hly
        have HLX := Lib.hid (rlane_any x j hx.1 hx.2 (by omega))
        clear hly
        generalize lane x j = v at HLX HLY
        go_wp2_with fail
        refine (HLY.out _).mono ?_
        rintro e w' ⟨rfl, rfl⟩
        go_wp2_with fail
        refine (HLX.out _).mono ?_
        rintro e w' ⟨rfl, rfl⟩
        go_wp2_with fail
        go_round
        case rel => exact ⟨j + 1, by omega, by go_num⟩
        case measure => simp [intOf]; omega
    · obtain rfl : j = 8 := by omega
      go_wp2_with fail
      refine (HS.out _).mono ?_
      rintro e w3 ⟨rfl, q2⟩
      go_wp2_with fail
      refine (HK.out _ (tr q1 q2)).mono ?_
      rintro e w5 ⟨rfl, q3⟩
      go_wp2_with fail
      go_ret
      exact ⟨rfl, tr (tr q1 q2) q3⟩
theorem holds_any (x l c : Int) (hx : U64 x) (c0 : 0 ≤ c) (c1 : c < 256) (w : World) (hk : Known w) : Calls Tryd.prog 6 #[.int .u64 x, .int .i64 l, .int .u8 c] w fun e w' => e = .returned (.bool true) ∧ Below w.heap.size w w' := by
  cases hv : vaB x
  · exact holds_inv x l c hx hv w hk
  by_cases hl : l < 0 ∨ 8 ≤ l
  · cases hc : okB c
    · exact holds_out_bad x l c hx c0 c1 hv hl hc w hk
    · exact holds_out_out x l c hx c0 c1 hv hl hc w hk
  by_cases hf : 127 < lane x l.toNat
  · cases hc : okB c
    · exact holds_free_bad x l c hx c0 c1 hv (by omega) (by omega) hf hc w hk
    · exact holds_free_ok x l c hx c0 c1 hv (by omega) (by omega) hf hc w hk
  by_cases he : emI x = 0
  · cases hc : okB c
    · exact holds_del_bad x l c hx c0 c1 hv (by omega) (by omega) hf he hc w hk
    · exact holds_del_ok x l c hx c0 c1 hv (by omega) (by omega) hf he hc w hk
  · cases hc : okB c
    · exact holds_emp_bad x l c hx c0 c1 hv (by omega) (by omega) hf he hc w hk
    · exact holds_emp_ok x l c hx c0 c1 hv (by omega) (by omega) hf he hc w hk
end Go.Proofs.YtgdpfnmmhpcleaaDoor.Ctl
