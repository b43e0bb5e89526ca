/-
  The laws of layer 5, walked.
-/
import Derived.Test.YtgdpfnmmhpcleaaDoorCtlU
set_option linter.unusedVariables false
set_option linter.unusedSimpArgs false
namespace Go.Proofs.YtgdpfnmmhpcleaaDoor.Ctl
open Go.RowKit Kit
open Word hiding tr ret_int bcell
def Known (w : World) : Prop := ∀ w1, Below w.heap.size w w1 → Calls Tryd.prog 27 #[] w1 fun e w' => e = .returned (.bool true) ∧ Below w1.heap.size w1 w'
set_option maxHeartbeats 2000000 in
set_option maxRecDepth 100000 in
theorem sets_any (x l c : Int) (hx : U64 x) (c0 : 0 ≤ c) (c1 : c < 256) (w : World) (hk : Known w) : Calls Tryd.prog 4 #[.int .u64 x, .int .i64 l, .int .u8 c] w fun e w' => e = .returned (.bool true) ∧ Below w.heap.size w w' := by
  have HK := Lib.hid hk
  clear hk
  cases hv : vaB x
  · go_enter Tryd.func4, Tryd.ntmps4
    go_wp2_with fail
    refine (set_inv x l c hx c0 c1 hv _).mono ?_
    rintro e w1 ⟨rfl, q1⟩
    go_wp2_with fail
    refine (rset_inv x l c hx c0 c1 hv _).mono ?_
    rintro e w2 ⟨rfl, q2⟩
    go_wp2_with fail
    refine (HK.out _ (tr q1 q2)).mono ?_
    rintro e w3 ⟨rfl, q3⟩
    go_wp2_with fail
    go_ret
    exact ⟨rfl, tr (tr q1 q2) q3⟩
  cases hc : okB c
  · go_enter Tryd.func4, Tryd.ntmps4
    go_wp2_with fail
    refine (set_bad x l c hx c0 c1 hv hc _).mono ?_
    rintro e w1 ⟨rfl, q1⟩
    go_wp2_with fail
    refine (rset_bad x l c hx c0 c1 hv hc _).mono ?_
    rintro e w2 ⟨rfl, q2⟩
    go_wp2_with fail
    refine (HK.out _ (tr q1 q2)).mono ?_
    rintro e w3 ⟨rfl, q3⟩
    go_wp2_with fail
    go_ret
    exact ⟨rfl, tr (tr q1 q2) q3⟩
  by_cases hl : 0 ≤ l ∧ l < 8
  · generalize hr : withI x l.toNat c = r
    have hs := set_ok x l c hx c0 c1 hv hc hl.1 hl.2
    have ht := rset_ok x l c hx c0 c1 hv hc hl.1 hl.2
    rw [hr] at hs ht
    have HS := Lib.hid hs
    have HT := Lib.hid ht
    clear hs ht hr
    go_enter Tryd.func4, Tryd.ntmps4
    go_wp2_with fail
    refine (HS.out _).mono ?_
    rintro e w1 ⟨rfl, q1⟩
    go_wp2_with fail
    refine (HT.out _).mono ?_
    rintro e w2 ⟨rfl, q2⟩
    go_wp2_with fail
    refine (HK.out _ (tr q1 q2)).mono ?_
    rintro e w3 ⟨rfl, q3⟩
    go_wp2_with fail
    go_ret
    exact ⟨rfl, tr (tr q1 q2) q3⟩
  have ho : l < 0 ∨ 8 ≤ l := by omega
  go_enter Tryd.func4, Tryd.ntmps4
  go_wp2_with fail
  refine (set_out x l c hx c0 c1 hv hc ho _).mono ?_
  rintro e w1 ⟨rfl, q1⟩
  go_wp2_with fail
  refine (rset_out x l c hx c0 c1 hv hc ho _).mono ?_
  rintro e w2 ⟨rfl, q2⟩
  go_wp2_with fail
  refine (HK.out _ (tr q1 q2)).mono ?_
  rintro e w3 ⟨rfl, q3⟩
  go_wp2_with fail
  go_ret
  exact ⟨rfl, tr (tr q1 q2) q3⟩
set_option maxHeartbeats 2000000 in
set_option maxRecDepth 100000 in
theorem erases_any (x l : Int) (hx : U64 x) (w : World) (hk : Known w) : Calls Tryd.prog 5 #[.int .u64 x, .int .i64 l] w fun e w' => e = .returned (.bool true) ∧ Below w.heap.size w w' := by
  have HK := Lib.hid hk
  clear hk
  cases hv : vaB x
  · go_enter Tryd.func5, Tryd.ntmps5
    go_wp2_with fail
    refine (er_inv x l hx hv _).mono ?_
    rintro e w1 ⟨rfl, q1⟩
    go_wp2_with fail
    refine (rer_inv x l hx hv _).mono ?_
    rintro e w2 ⟨rfl, q2⟩
    go_wp2_with fail
    refine (HK.out _ (tr q1 q2)).mono ?_
    rintro e w3 ⟨rfl, q3⟩
    go_wp2_with fail
    go_ret
    exact ⟨rfl, tr (tr q1 q2) q3⟩
  by_cases hl : l < 0 ∨ 8 ≤ l
  · go_enter Tryd.func5, Tryd.ntmps5
    go_wp2_with fail
    refine (er_out x l hx hv hl _).mono ?_
    rintro e w1 ⟨rfl, q1⟩
    go_wp2_with fail
    refine (rer_out x l hx hv hl _).mono ?_
    rintro e w2 ⟨rfl, q2⟩
    go_wp2_with fail
    refine (HK.out _ (tr q1 q2)).mono ?_
    rintro e w3 ⟨rfl, q3⟩
    go_wp2_with fail
    go_ret
    exact ⟨rfl, tr (tr q1 q2) q3⟩
  have l0 : 0 ≤ l := by omega
  have l1 : l < 8 := by omega
  clear hl
  by_cases hf : 127 < lane x l.toNat
  · go_enter Tryd.func5, Tryd.ntmps5
    go_wp2_with fail
    refine (er_free x l hx hv l0 l1 hf _).mono ?_
    rintro e w1 ⟨rfl, q1⟩
    go_wp2_with fail
    refine (rer_free x l hx hv l0 l1 hf _).mono ?_
    rintro e w2 ⟨rfl, q2⟩
    go_wp2_with fail
    refine (HK.out _ (tr q1 q2)).mono ?_
    rintro e w3 ⟨rfl, q3⟩
    go_wp2_with fail
    go_ret
    exact ⟨rfl, tr (tr q1 q2) q3⟩
  by_cases he : emI x = 0
  · generalize hr : withI x l.toNat 254 = r
    have hs := er_del x l hx hv l0 l1 hf he
    have ht := rer_del x l hx hv l0 l1 hf he
    rw [hr] at hs ht
    have HS := Lib.hid hs
    have HT := Lib.hid ht
    clear hs ht hr
    go_enter Tryd.func5, Tryd.ntmps5
    go_wp2_with fail
    refine (HS.out _).mono ?_
    rintro e w1 ⟨rfl, q1⟩
    go_wp2_with fail
    refine (HT.out _).mono ?_
    rintro e w2 ⟨rfl, q2⟩
    go_wp2_with fail
    refine (HK.out _ (tr q1 q2)).mono ?_
    rintro e w3 ⟨rfl, q3⟩
    go_wp2_with fail
    go_ret
    exact ⟨rfl, tr (tr q1 q2) q3⟩
  · generalize hr : withI x l.toNat 128 = r
    have hs := er_empty x l hx hv l0 l1 hf he
    have ht := rer_empty x l hx hv l0 l1 hf he
    rw [hr] at hs ht
    have HS := Lib.hid hs
    have HT := Lib.hid ht
    clear hs ht hr
    go_enter Tryd.func5, Tryd.ntmps5
    go_wp2_with fail
    refine (HS.out _).mono ?_
    rintro e w1 ⟨rfl, q1⟩
    go_wp2_with fail
    refine (HT.out _).mono ?_
    rintro e w2 ⟨rfl, q2⟩
    go_wp2_with fail
    refine (HK.out _ (tr q1 q2)).mono ?_
    rintro e w3 ⟨rfl, q3⟩
    go_wp2_with fail
    go_ret
    exact ⟨rfl, tr (tr q1 q2) q3⟩
set_option maxHeartbeats 4000000 in
set_option maxRecDepth 100000 in
theorem looks_any (x t : Int) (hx : U64 x) (t0 : 0 ≤ t) (t1 : t < 256) (w : World) (hk : Known w) : Calls Tryd.prog 3 #[.int .u64 x, .int .u8 t] w fun e w' => e = .returned (.bool true) ∧ Below w.heap.size w w' := by
  have HK := Lib.hid hk
  clear hk
  have A0 := Lib.hid (valid_any x hx)
  have B0 := Lib.hid (rvalid_any x hx)
  have A1 := Lib.hid (match_any' x t hx t0 t1)
  have B1 := Lib.hid (rm_any x t hx)
  have A2 := Lib.hid (empties_any x hx)
  have B2 := Lib.hid (rempties_any x hx)
  have A3 := Lib.hid (free_any x hx)
  have B3 := Lib.hid (rfree_any x hx)
  have A4 := Lib.hid (full_any x hx)
  have B4 := Lib.hid (rfull_any x hx)
  generalize vaB x = v0 at *
  generalize maI x t = v1 at *
  generalize emI x = v2 at *
  generalize frI x = v3 at *
  generalize fuI x = v4 at *
  have hr := rrepeat_any 128 (by omega) (by omega)
  rw [show (72340172838076673 : Int) * 128 = 9259542123273814144 from rfl] at hr
  have HR := Lib.hid hr
  clear hr hx
  go_enter Tryd.func3, Tryd.ntmps3
  go_wp2_with fail
  refine (A0.out _).mono ?_
  rintro e w1 ⟨rfl, rfl⟩
  go_wp2_with fail
  refine (B0.out _).mono ?_
  rintro e w2 ⟨rfl, q0⟩
  go_wp2_with fail
  refine (A1.out _).mono ?_
  rintro e w1 ⟨rfl, rfl⟩
  go_wp2_with fail
  refine (B1.out _).mono ?_
  rintro e w3 ⟨rfl, q1⟩
  go_wp2_with fail
  refine (A2.out _).mono ?_
  rintro e w1 ⟨rfl, rfl⟩
  go_wp2_with fail
  refine (B2.out _).mono ?_
  rintro e w4 ⟨rfl, q2⟩
  go_wp2_with fail
  refine (A3.out _).mono ?_
  rintro e w1 ⟨rfl, rfl⟩
  go_wp2_with fail
  refine (B3.out _).mono ?_
  rintro e w5 ⟨rfl, q3⟩
  go_wp2_with fail
  refine (A4.out _).mono ?_
  rintro e w1 ⟨rfl, rfl⟩
  go_wp2_with fail
  refine (B4.out _).mono ?_
  rintro e w6 ⟨rfl, q4⟩
  go_wp2_with fail
  refine (blank_any _).mono ?_
  rintro e w8 ⟨rfl, rfl⟩
  go_wp2_with fail
  refine (HR.out _).mono ?_
  rintro e w8 ⟨rfl, q8⟩
  have Q := Lib.hid (tr (tr (tr (tr (tr (q0) q1) q2) q3) q4) q8)
  clear q0 q1 q2 q3 q4 q8
  go_wp2_with fail
  refine (HK.out _ Q.out).mono ?_
  rintro e w9 ⟨rfl, q9⟩
  go_wp2_with fail
  go_ret
  exact ⟨rfl, tr Q.out q9⟩
end Go.Proofs.YtgdpfnmmhpcleaaDoor.Ctl
