/-
  Walks over the reference of layer 5, and over Set and Erase of both.
-/
import Derived.Test.YtngdbkegebmonaaDoorCtlW
set_option linter.unusedVariables false
set_option linter.unusedSimpArgs false
namespace Go.Proofs.YtngdbkegebmonaaDoor.Ctl
open Go.RowKit Kit
open Word hiding tr ret_int bcell
theorem rbyte_any (b : Int) (w : World) : Calls Tryd.prog 29 #[.int .u8 b] w fun e w' => e = .returned (.bool (okB b)) ∧ w = w' := by
  go_enter Tryd.func29, Tryd.ntmps29
  go_wp2
  all_goals (go_ret; refine ⟨ret_bool ?_, rfl⟩)
  all_goals (unfold okB; simp_all)
set_option maxHeartbeats 1000000 in
theorem rvalid_any (x : Int) (hx : U64 x) (w : World) : Calls Tryd.prog 9 #[.int .u64 x] w fun e w' => e = .returned (.bool (vaB x)) ∧ Below w.heap.size w w' := by
  have HB := Lib.hid (rbytes_any x hx.1 hx.2)
  unfold lanes at HB
  unfold vaB okL
  generalize lane x 0 = b0 at *
  generalize lane x 1 = b1 at *
  generalize lane x 2 = b2 at *
  generalize lane x 3 = b3 at *
  generalize lane x 4 = b4 at *
  generalize lane x 5 = b5 at *
  generalize lane x 6 = b6 at *
  generalize lane x 7 = b7 at *
  clear hx
  go_enter Tryd.func9, Tryd.ntmps9
  go_wp2_with fail
  refine (HB.out _).mono ?_
  rintro e w1 ⟨rfl, q1⟩
  go_wp2_with fail
  refine wp_loop_rounds 9 ?_
  repeat any_goals (rw [rounds_succ]; go_wp2_with (go_at_call 29; refine (rbyte_any _ _).mono ?_; rintro e w' ⟨rfl, rfl⟩))
  all_goals go_ret
  all_goals refine ⟨ret_bool ?_, tr q1 (by go_grown)⟩
  all_goals simp_all
theorem em_or1 (x : Int) : (setI fun i => decide (128 ≤ lane x i) && decide (lane x i ≤ 128)) = emI x := setI_congr _ _ fun i => by
  rw [Bool.eq_iff_iff]; simp; omega
theorem rmatch_t (x t : Int) : (setI fun i => decide (t ≤ lane x i) && decide (lane x i ≤ t)) = setI fun i => lane x i == t := setI_congr _ _ fun i => by
  rw [Bool.eq_iff_iff]; simp; omega
theorem rmatch_f (x : Int) : (setI fun i => decide (0 ≤ lane x i) && decide (lane x i ≤ 127)) = fuI x := setI_congr _ _ fun i => by
  have := lane_byte x i
  rw [Bool.eq_iff_iff]; simp; omega
set_option maxHeartbeats 1000000 in
theorem rm_any (x t : Int) (hx : U64 x) (w : World) : Calls Tryd.prog 11 #[.int .u64 x, .int .u8 t] w fun e w' => e = .returned (.int .u8 (maI x t)) ∧ Below w.heap.size w w' := by
  have hm := rmatch_any x t t hx.1 hx.2
  rw [rmatch_t] at hm
  by_cases h : t < 128
  · have e1 : maI x t = setI (fun i => lane x i == t) := by unfold maI; rw [if_pos h]
    rw [e1]
    generalize (setI fun i => lane x i == t) = r at hm
    have HM := Lib.hid hm
    have h' : ¬ 127 < t := by omega
    clear hm e1 h
    go_enter Tryd.func11, Tryd.ntmps11
    go_wp2_with fail
    refine (HM.out _).mono ?_
    rintro e w1 ⟨rfl, q1⟩
    go_wp2_with fail
    go_ret
    exact ⟨rfl, q1⟩
  · have e1 : maI x t = 0 := by unfold maI; rw [if_neg h]
    rw [e1]
    have h' : 127 < t := by omega
    clear hm e1 h
    go_enter Tryd.func11, Tryd.ntmps11
    go_wp2_with fail
    go_ret
    exact ⟨rfl, Below.refl _ _⟩
theorem rempties_any (x : Int) (hx : U64 x) (w : World) : Calls Tryd.prog 13 #[.int .u64 x] w fun e w' => e = .returned (.int .u8 (emI x)) ∧ Below w.heap.size w w' := by
  have hm := rmatch_any x 128 128 hx.1 hx.2
  rw [em_or1] at hm
  generalize emI x = r at hm
  have HM := Lib.hid hm
  clear hm
  go_enter Tryd.func13, Tryd.ntmps13
  go_wp2_with fail
  refine (HM.out _).mono ?_
  rintro e w1 ⟨rfl, q1⟩
  go_wp2_with fail
  go_ret
  exact ⟨rfl, q1⟩
theorem rfull_any (x : Int) (hx : U64 x) (w : World) : Calls Tryd.prog 17 #[.int .u64 x] w fun e w' => e = .returned (.int .u8 (fuI x)) ∧ Below w.heap.size w w' := by
  have hm := rmatch_any x 0 127 hx.1 hx.2
  rw [rmatch_f] at hm
  generalize fuI x = r at hm
  have HM := Lib.hid hm
  clear hm
  go_enter Tryd.func17, Tryd.ntmps17
  go_wp2_with fail
  refine (HM.out _).mono ?_
  rintro e w1 ⟨rfl, q1⟩
  go_wp2_with fail
  go_ret
  exact ⟨rfl, q1⟩
theorem rfree_any (x : Int) (hx : U64 x) (w : World) : Calls Tryd.prog 15 #[.int .u64 x] w fun e w' => e = .returned (.int .u8 (frI x)) ∧ Below w.heap.size w w' := by
  have hm := rmatch_any x 254 254 hx.1 hx.2
  rw [rmatch_t] at hm
  have HE := Lib.hid (rempties_any x hx)
  have HO := Lib.hid (em_or x)
  generalize emI x = a at HE HO
  generalize (setI fun i => lane x i == 254) = b at hm HO
  generalize frI x = c at HO
  have HM := Lib.hid hm
  clear hm
  go_enter Tryd.func15, Tryd.ntmps15
  go_wp2_with fail
  refine (HE.out _).mono ?_
  rintro e w1 ⟨rfl, q1⟩
  go_wp2_with fail
  refine (HM.out _).mono ?_
  rintro e w2 ⟨rfl, q2⟩
  go_wp2_with fail
  go_ret
  exact ⟨Word.ret_int HO.out, tr q1 q2⟩
theorem okB_cases {c : Int} (h : okB c = true) : c < 128 ∨ c = 128 ∨ c = 254 := by unfold okB at h; simp at h; omega
theorem okB_no {c : Int} (h : okB c = false) : 128 < c ∧ c ≠ 254 := by unfold okB at h; simp at h; omega
set_option maxHeartbeats 1000000 in
theorem set_inv (x l c : Int) (hx : U64 x) (c0 : 0 ≤ c) (c1 : c < 256) (hv : vaB x = false) (w : World) : Calls Tryd.prog 21 #[.int .u64 x, .int .i64 l, .int .u8 c] w fun e w' => e = .returned (.tuple #[.int .u64 0, .int .i64 2]) ∧ Below w.heap.size w w' := by
  have HV := Lib.hid (valid_any x hx)
  rw [hv] at HV
  clear hv
  go_enter Tryd.func21, Tryd.ntmps21
  go_wp2_with fail
  refine (HV.out _).mono ?_
  rintro e w1 ⟨rfl, rfl⟩
  go_wp2_with fail
  go_ret2
  exact ⟨rfl, Below.refl _ _⟩
set_option maxHeartbeats 1000000 in
theorem set_bad (x l c : Int) (hx : U64 x) (c0 : 0 ≤ c) (c1 : c < 256) (hv : vaB x = true) (hc : okB c = false) (w : World) : Calls Tryd.prog 21 #[.int .u64 x, .int .i64 l, .int .u8 c] w fun e w' => e = .returned (.tuple #[.int .u64 0, .int .i64 2]) ∧ Below w.heap.size w w' := by
  obtain ⟨h1, h2⟩ := okB_no hc
  have h3 : (c != 128) = true := by simp; omega
  have h4 : (c != 254) = true := by simp; omega
  have hT := isTag_any c
  rw [show decide (c < 128) = false from by simp; omega] at hT
  have HT := Lib.hid hT
  clear hT hc h1 h2
  have HV := Lib.hid (valid_any x hx)
  rw [hv] at HV
  clear hv
  go_enter Tryd.func21, Tryd.ntmps21
  go_wp2_with fail
  refine (HV.out _).mono ?_
  rintro e w1 ⟨rfl, rfl⟩
  go_wp2_with (go_at_call 30; refine (HT.out _).mono ?_; rintro e w' ⟨rfl, rfl⟩)
  go_ret2
  exact ⟨rfl, Below.refl _ _⟩
set_option maxHeartbeats 1000000 in
theorem set_ok (x l c : Int) (hx : U64 x) (c0 : 0 ≤ c) (c1 : c < 256) (hv : vaB x = true) (hc : okB c = true) (l0 : 0 ≤ l) (l1 : l < 8) (w : World) : Calls Tryd.prog 21 #[.int .u64 x, .int .i64 l, .int .u8 c] w fun e w' => e = .returned (.tuple #[.int .u64 (withI x l.toNat c), .int .i64 0]) ∧ Below w.heap.size w w' := by
  rcases okB_cases hc with h | rfl | rfl
  all_goals
    have HV := Lib.hid (valid_any x hx)
    rw [hv] at HV
    clear hv hc
    go_enter Tryd.func21, Tryd.ntmps21
    go_wp2_with fail
    refine (HV.out _).mono ?_
    rintro e w1 ⟨rfl, rfl⟩
    go_wp2_with (go_at_call 30; refine (isTag_any _ _).mono ?_; rintro e w' ⟨rfl, rfl⟩)
    refine (with_any x l _ hx.1 hx.2 l0 l1 c0 c1 _).mono ?_
    rintro e w2 ⟨rfl, q1⟩
    go_wp2_with fail
    go_ret2
    exact ⟨rfl, q1⟩
set_option maxHeartbeats 1000000 in
theorem set_out (x l c : Int) (hx : U64 x) (c0 : 0 ≤ c) (c1 : c < 256) (hv : vaB x = true) (hc : okB c = true) (hl : l < 0 ∨ 8 ≤ l) (w : World) : Calls Tryd.prog 21 #[.int .u64 x, .int .i64 l, .int .u8 c] w fun e w' => e = .returned (.tuple #[.int .u64 0, .int .i64 3]) ∧ Below w.heap.size w w' := by
  rcases okB_cases hc with h | rfl | rfl
  all_goals
    have HV := Lib.hid (valid_any x hx)
    rw [hv] at HV
    clear hv hc
    go_enter Tryd.func21, Tryd.ntmps21
    go_wp2_with fail
    refine (HV.out _).mono ?_
    rintro e w1 ⟨rfl, rfl⟩
    go_wp2_with (go_at_call 30; refine (isTag_any _ _).mono ?_; rintro e w' ⟨rfl, rfl⟩)
    refine (with_out x l _ hl _).mono ?_
    rintro e w2 ⟨rfl, rfl⟩
    go_wp2_with fail
    go_ret2
    exact ⟨rfl, Below.refl _ _⟩
set_option maxHeartbeats 1000000 in
theorem rset_inv (x l c : Int) (hx : U64 x) (c0 : 0 ≤ c) (c1 : c < 256) (hv : vaB x = false) (w : World) : Calls Tryd.prog 22 #[.int .u64 x, .int .i64 l, .int .u8 c] w fun e w' => e = .returned (.tuple #[.int .u64 0, .int .i64 2]) ∧ Below w.heap.size w w' := by
  have HV := Lib.hid (rvalid_any x hx)
  rw [hv] at HV
  go_enter Tryd.func22, Tryd.ntmps22
  go_wp2_with fail
  refine (HV.out _).mono ?_
  rintro e w1 ⟨rfl, q1⟩
  go_wp2_with fail
  go_ret2
  exact ⟨rfl, q1⟩
set_option maxHeartbeats 1000000 in
theorem rset_bad (x l c : Int) (hx : U64 x) (c0 : 0 ≤ c) (c1 : c < 256) (hv : vaB x = true) (hc : okB c = false) (w : World) : Calls Tryd.prog 22 #[.int .u64 x, .int .i64 l, .int .u8 c] w fun e w' => e = .returned (.tuple #[.int .u64 0, .int .i64 2]) ∧ Below w.heap.size w w' := by
  have HB := Lib.hid (rbyte_any c)
  rw [hc] at HB
  have HV := Lib.hid (rvalid_any x hx)
  rw [hv] at HV
  go_enter Tryd.func22, Tryd.ntmps22
  go_wp2_with fail
  refine (HV.out _).mono ?_
  rintro e w1 ⟨rfl, q1⟩
  go_wp2_with (go_at_call 29; refine (HB.out _).mono ?_; rintro e w' ⟨rfl, rfl⟩)
  go_ret2
  exact ⟨rfl, q1⟩
set_option maxHeartbeats 1000000 in
theorem rset_ok (x l c : Int) (hx : U64 x) (c0 : 0 ≤ c) (c1 : c < 256) (hv : vaB x = true) (hc : okB c = true) (l0 : 0 ≤ l) (l1 : l < 8) (w : World) : Calls Tryd.prog 22 #[.int .u64 x, .int .i64 l, .int .u8 c] w fun e w' => e = .returned (.tuple #[.int .u64 (withI x l.toNat c), .int .i64 0]) ∧ Below w.heap.size w w' := by
  have HB := Lib.hid (rbyte_any c)
  rw [hc] at HB
  have HV := Lib.hid (rvalid_any x hx)
  rw [hv] at HV
  go_enter Tryd.func22, Tryd.ntmps22
  go_wp2_with fail
  refine (HV.out _).mono ?_
  rintro e w1 ⟨rfl, q1⟩
  go_wp2_with (go_at_call 29; refine (HB.out _).mono ?_; rintro e w' ⟨rfl, rfl⟩)
  refine (rwith_any x l c hx.1 hx.2 l0 l1 c0 c1 _).mono ?_
  rintro e w2 ⟨rfl, q2⟩
  go_wp2_with fail
  go_ret2
  exact ⟨rfl, tr q1 q2⟩
set_option maxHeartbeats 1000000 in
theorem rset_out (x l c : Int) (hx : U64 x) (c0 : 0 ≤ c) (c1 : c < 256) (hv : vaB x = true) (hc : okB c = true) (hl : l < 0 ∨ 8 ≤ l) (w : World) : Calls Tryd.prog 22 #[.int .u64 x, .int .i64 l, .int .u8 c] w fun e w' => e = .returned (.tuple #[.int .u64 0, .int .i64 3]) ∧ Below w.heap.size w w' := by
  have HB := Lib.hid (rbyte_any c)
  rw [hc] at HB
  have HV := Lib.hid (rvalid_any x hx)
  rw [hv] at HV
  go_enter Tryd.func22, Tryd.ntmps22
  go_wp2_with fail
  refine (HV.out _).mono ?_
  rintro e w1 ⟨rfl, q1⟩
  go_wp2_with (go_at_call 29; refine (HB.out _).mono ?_; rintro e w' ⟨rfl, rfl⟩)
  refine (rwith_out x l c hl _).mono ?_
  rintro e w2 ⟨rfl, rfl⟩
  go_wp2_with fail
  go_ret2
  exact ⟨rfl, q1⟩
end Go.Proofs.YtngdbkegebmonaaDoor.Ctl
