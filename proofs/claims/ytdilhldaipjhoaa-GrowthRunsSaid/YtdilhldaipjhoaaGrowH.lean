/-
  The theorem of layer 8 (growth): there is room after what Insert says, and the bound is kept.
-/
import Derived.Test.YtdilhldaipjhoaaGrowR
import Derived.ProofKit
import Derived.OpenShut
namespace Go.Proofs.Ytdilhldaipjhoaa.Grow
open Go.RowKit Kit GrowM

theorem boundI_le (a b : Int) (hab : a ≤ b) (hb : b ≤ 9000000) : boundI a ≤ boundI b := by
  obtain ⟨k, _, e, h1, h2⟩ := up_spec 1 (4 * a + 16) 30 1 (by simp only [Int.reducePow]; omega)
  obtain ⟨m, _, e', h1', _⟩ := up_spec 1 (4 * b + 16) 30 1 (by simp only [Int.reducePow]; omega)
  unfold boundI; rw [e, e']
  rcases Nat.lt_or_ge m k with hlt | hge
  · have h3 := h2 (by omega)
    have h4 := pow_le m (k - 1) (by omega)
    omega
  · have := pow_le k m hge
    omega
theorem boundI_low (a : Int) (h0 : 0 ≤ a) (hb : a ≤ 9000000) : 4 * a + 16 ≤ boundI a ∧ ∃ k : Nat, 4 ≤ k ∧ boundI a = 2 ^ k := by
  obtain ⟨k, _, e, h1, _⟩ := up_spec 1 (4 * a + 16) 30 1 (by simp only [Int.reducePow]; omega)
  refine ⟨by unfold boundI; rw [e]; omega, k, ?_, by unfold boundI; rw [e]; omega⟩
  rcases Nat.lt_or_ge k 4 with hlt | hge
  · have := pow_le k 3 (by omega)
    simp only [Int.reducePow] at this
    omega
  · exact hge
theorem pow_eight (k : Nat) (h : 4 ≤ k) : (2 : Int) ^ k = 8 * 2 ^ (k - 3) := by
  rw [show (2 : Int) ^ k = 2 ^ (3 + (k - 3)) from by rw [show 3 + (k - 3) = k by omega], Int.pow_add]; rfl
theorem boundI_eight (a : Int) (h0 : 0 ≤ a) (hb : a ≤ 9000000) : 8 * (boundI a / 8) = boundI a := by
  obtain ⟨_, k, hk, e⟩ := boundI_low a h0 hb
  rw [e, pow_eight k hk]
  omega
/-- when the groups double, so does the bound -/
theorem boundI_twice (g l : Int) (hg : pow2 g = true) (hl : 7 * g < 2 * l) (hm : l ≤ 9000000) : 16 * g ≤ boundI (l + 1) ∨ 9000000 < l + 1 := by
  by_cases hlm : l + 1 ≤ 9000000
  · refine .inl ?_
    obtain ⟨j, _, rfl⟩ := (pow2_iff g).1 hg
    have hp := pow_pos' j
    obtain ⟨hlow, k, _, e⟩ := boundI_low (l + 1) (by omega) hlm
    have e8 : (2 : Int) ^ (j + 4) = 16 * 2 ^ j := by rw [Int.pow_add, Int.mul_comm]; rfl
    have e7 : (2 : Int) ^ (j + 3) = 8 * 2 ^ j := by rw [Int.pow_add, Int.mul_comm]; rfl
    rw [e]
    rcases Nat.lt_or_ge k (j + 4) with hlt | hge
    · have := pow_le k (j + 3) (by omega)
      omega
    · have := pow_le (j + 4) k hge
      omega
  · exact .inr (by omega)
theorem groupsI_ok (l : Int) (h0 : 0 ≤ l) (h1 : l ≤ 7340032) : pow2 (groupsI l) = true ∧ l ≤ 7 * groupsI l := by
  obtain ⟨k, _, e, h2, h3⟩ := up_spec 7 l 30 1 (by simp only [Int.reducePow]; omega)
  have hk : k ≤ 20 := by
    rcases Nat.lt_or_ge 20 k with hlt | hge
    · have h4 := h3 (by omega)
      have h5 := pow_le 20 (k - 1) (by omega)
      simp only [Int.reducePow] at h5
      omega
    · exact hge
  refine ⟨(pow2_iff _).2 ⟨k, hk, by unfold groupsI; rw [e]; omega⟩, by unfold groupsI; rw [e]; omega⟩

section
variable (g l t : Int) (w : World) (g0 : -9223372036854775808 ≤ g) (g1 : g ≤ 9223372036854775807) (l0 : -9223372036854775808 ≤ l) (l1 : l ≤ 9223372036854775807) (t0 : -9223372036854775808 ≤ t) (t1 : t ≤ 9223372036854775807)
include g0 g1 l0 l1 t0 t1
set_option maxHeartbeats 2000000
set_option maxRecDepth 100000
omit g0 g1 l0 l1 t0 t1 in
theorem holds_groups (hg : pow2 g = false) :
    Calls Try.prog 12 #[.int .i64 g, .int .i64 l, .int .i64 t] w fun e w' => e = .returned (.bool true) ∧ Below w.heap.size w w' := by
  go_enter Try.func12, Try.ntmps12
  go_wp2_with fail
  refine (limit_bad g hg _).mono ?_
  rintro e w1 ⟨rfl, b1⟩
  go_wp2_with fail
  refine (known_any _).mono ?_
  rintro e w2 ⟨rfl, b2⟩
  go_wp2_with fail
  go_ret
  exact ⟨rfl, tr b1 b2⟩
theorem holds_lanes (hg : pow2 g = true) (hb : badLanes g l t = true) :
    Calls Try.prog 12 #[.int .i64 g, .int .i64 l, .int .i64 t] w fun e w' => e = .returned (.bool true) ∧ Below w.heap.size w w' := by
  obtain ⟨h1, h2⟩ := pow2_range g hg
  have HP := Lib.hid (limit_ok g hg)
  clear hg
  have hb' : l < 0 ∨ t < 0 ∨ 8 * g < l ∨ 8 * g < t ∨ 8 * g < l + t := by simp [badLanes] at hb; omega
  clear hb
  by_cases c1 : l < 0
  · clear hb'
    go_enter Try.func12, Try.ntmps12
    go_wp2_with fail
    refine (HP.out _).mono ?_
    rintro e w1 ⟨rfl, b1⟩
    go_wp2_with fail
    refine (known_any _).mono ?_
    rintro e w2 ⟨rfl, b2⟩
    go_wp2_with fail
    go_ret
    exact ⟨rfl, tr b1 b2⟩
  by_cases c2 : t < 0
  · clear hb'
    go_enter Try.func12, Try.ntmps12
    go_wp2_with fail
    refine (HP.out _).mono ?_
    rintro e w1 ⟨rfl, b1⟩
    go_wp2_with fail
    refine (known_any _).mono ?_
    rintro e w2 ⟨rfl, b2⟩
    go_wp2_with fail
    go_ret
    exact ⟨rfl, tr b1 b2⟩
  by_cases c3 : 8 * g < l
  · clear hb'
    go_enter Try.func12, Try.ntmps12
    go_wp2_with fail
    refine (HP.out _).mono ?_
    rintro e w1 ⟨rfl, b1⟩
    go_wp2_with fail
    refine (known_any _).mono ?_
    rintro e w2 ⟨rfl, b2⟩
    go_wp2_with fail
    go_ret
    exact ⟨rfl, tr b1 b2⟩
  by_cases c4 : 8 * g < t
  · clear hb'
    go_enter Try.func12, Try.ntmps12
    go_wp2_with fail
    refine (HP.out _).mono ?_
    rintro e w1 ⟨rfl, b1⟩
    go_wp2_with fail
    refine (known_any _).mono ?_
    rintro e w2 ⟨rfl, b2⟩
    go_wp2_with fail
    go_ret
    exact ⟨rfl, tr b1 b2⟩
  · have c5 : 8 * g < l + t := by omega
    clear hb'
    go_enter Try.func12, Try.ntmps12
    go_wp2_with fail
    refine (HP.out _).mono ?_
    rintro e w1 ⟨rfl, b1⟩
    go_wp2_with fail
    refine (known_any _).mono ?_
    rintro e w2 ⟨rfl, b2⟩
    go_wp2_with fail
    go_ret
    exact ⟨rfl, tr b1 b2⟩

/-- what the walk needs of the two plans -/
def InsOk (g l t p : Int) (r : Bool) (c M N : Int) : Prop :=
  (c = 7 ∧ 7 * g ≤ l) ∨ (c = 0 ∧ pow2 p = true ∧ r = false ∧ l + t < 7 * p ∧ (8 * g ≤ M → 8 * p ≤ N)) ∨ (c = 0 ∧ pow2 p = true ∧ r = true ∧ l < 7 * p ∧ (8 * g ≤ M → 8 * p ≤ N))
omit l0 l1 g0 g1 t0 t1 in
theorem ins_ok (hg : pow2 g = true) (h5 : l ≤ 8 * g) (M N : Int) (hM : M ≤ N) (hN : 2 * g ≤ 1048576 → 7 * g < 2 * l → 16 * g ≤ N) (p : Int) (r : Bool) (c : Int)
    (h : (c = 0 ∧ p = g ∧ r = false ∧ l + t < 7 * g) ∨ (c = 0 ∧ p = g ∧ r = true ∧ l < 7 * g ∧ 7 * g ≤ l + t) ∨
        (c = 0 ∧ p = 2 * g ∧ r = true ∧ pow2 (2 * g) = true ∧ 7 * g < 2 * l ∧ 7 * g ≤ l + t) ∨ (c = 7 ∧ p = 0 ∧ r = false ∧ 7 * g ≤ l ∧ pow2 (2 * g) = false)) : InsOk g l t p r c M N := by
  obtain ⟨a1, a2⟩ := pow2_range g hg
  rcases h with ⟨rfl, rfl, rfl, h⟩ | ⟨rfl, rfl, rfl, h, _⟩ | ⟨rfl, rfl, rfl, h, h', _⟩ | ⟨rfl, rfl, rfl, h, _⟩
  · exact .inr (.inl ⟨rfl, hg, rfl, h, by omega⟩)
  · exact .inr (.inr ⟨rfl, hg, rfl, h, by omega⟩)
  · have := pow2_range _ h
    exact .inr (.inr ⟨rfl, h, rfl, by omega, by have := hN (by omega) h'; omega⟩)
  · exact .inl ⟨rfl, h⟩
theorem holds_low_full (hg : pow2 g = true) (h3 : 0 ≤ l) (h4 : 0 ≤ t) (h5 : l ≤ 8 * g) (h6 : t ≤ 8 * g - l) (hc : l + 1 ≤ 7340032)
    (M p : Int) (r : Bool) (c : Int) (PI : RowKit.Hid (∀ w, Calls Try.prog 32 #[.int .i64 g, .int .i64 l, .int .i64 t] w fun e w' => e = .returned (planV p r c) ∧ Below w.heap.size w w'))
    (HI : c = 7 ∧ 7 * g ≤ l)
    (hM : RowKit.Hid (boundI l = M))
    (q : Int) (s : Bool) (PR : RowKit.Hid (∀ w, Calls Try.prog 34 #[.int .i64 g, .int .i64 l, .int .i64 t] w fun e w' => e = .returned (planV q s 0) ∧ Below w.heap.size w w'))
    (k0 : 0 ≤ q) (k1 : q ≤ 1048576) (k2 : l ≤ 8 * q) (k3 : l ≤ 7340032 → 8 * q ≤ M) :
    Calls Try.prog 12 #[.int .i64 g, .int .i64 l, .int .i64 t] w fun e w' => e = .returned (.bool true) ∧ Below w.heap.size w w' := by
  obtain ⟨h1, h2⟩ := pow2_range g hg
  have HP := Lib.hid (limit_ok g hg)
  obtain ⟨gok, gle⟩ := groupsI_ok l (by omega) (by omega)
  have HQ := Lib.hid (limit_ok (groupsI l) gok)
  obtain ⟨gr0, gr1⟩ := pow2_range _ gok
  have HG := Lib.hid (Groups_ok l (by omega) (by omega))
  obtain ⟨rfl, hf⟩ := HI
  have HM := Lib.hid (Bound_ok l (by omega) (by omega))
  simp only [hM.out] at HM
  clear hg gok hM
  generalize groupsI l = n at *
  go_enter Try.func12, Try.ntmps12
  go_wp2_with fail
  refine (HP.out _).mono ?_
  rintro e w1 ⟨rfl, b1⟩
  go_wp2_with fail
  refine (HM.out _).mono ?_
  rintro e w2 ⟨rfl, b2⟩
  go_wp2_with fail
  refine (PI.out _).mono ?_
  rintro e w3 ⟨rfl, b3⟩
  simp only [planV]
  go_wp2_with fail
  all_goals
    refine (PR.out _).mono ?_
    rintro e w6 ⟨rfl, b6⟩
    simp only [planV]
    have A6 := Bx.new w6 48 (.int .i64 q) (.bool s)
    have x0 := A6.c0
    have x1 := A6.c1
    have xl := A6.lt
    go_wp2_with fail
    all_goals
      refine (HG.out _).mono ?_
      rintro e w7 ⟨rfl, b7⟩
      go_wp2_with fail
      refine (HQ.out _).mono ?_
      rintro e w8 ⟨rfl, b8⟩
      go_wp2_with fail
      refine (known_any _).mono ?_
      rintro e w9 ⟨rfl, b9⟩
      go_wp2_with fail
      go_ret
      exact ⟨rfl, tr (tr (tr (tr (tr (tr b1 b2) b3) (tr (by go_grown) b6)) (tr (by go_grown) b7)) b8) b9⟩
theorem holds_low_keep (hg : pow2 g = true) (h3 : 0 ≤ l) (h4 : 0 ≤ t) (h5 : l ≤ 8 * g) (h6 : t ≤ 8 * g - l) (hc : l + 1 ≤ 7340032)
    (M N p : Int) (r : Bool) (c : Int) (PI : RowKit.Hid (∀ w, Calls Try.prog 32 #[.int .i64 g, .int .i64 l, .int .i64 t] w fun e w' => e = .returned (planV p r c) ∧ Below w.heap.size w w'))
    (HI : c = 0 ∧ pow2 p = true ∧ r = false ∧ l + t < 7 * p ∧ (8 * g ≤ M → 8 * p ≤ N))
    (hM : RowKit.Hid (boundI l = M)) (hN : RowKit.Hid (boundI (l + 1) = N))
    (q : Int) (s : Bool) (PR : RowKit.Hid (∀ w, Calls Try.prog 34 #[.int .i64 g, .int .i64 l, .int .i64 t] w fun e w' => e = .returned (planV q s 0) ∧ Below w.heap.size w w'))
    (k0 : 0 ≤ q) (k1 : q ≤ 1048576) (k2 : l ≤ 8 * q) (k3 : l ≤ 7340032 → 8 * q ≤ M) :
    Calls Try.prog 12 #[.int .i64 g, .int .i64 l, .int .i64 t] w fun e w' => e = .returned (.bool true) ∧ Below w.heap.size w w' := by
  obtain ⟨h1, h2⟩ := pow2_range g hg
  have HP := Lib.hid (limit_ok g hg)
  obtain ⟨gok, gle⟩ := groupsI_ok l (by omega) (by omega)
  have HQ := Lib.hid (limit_ok (groupsI l) gok)
  obtain ⟨gr0, gr1⟩ := pow2_range _ gok
  have HG := Lib.hid (Groups_ok l (by omega) (by omega))
  obtain ⟨rfl, hp, rfl, hroom, key⟩ := HI
  obtain ⟨p1, p2⟩ := pow2_range p hp
  have HS := Lib.hid (limit_ok p hp)
  clear hp
  have HM := Lib.hid (Bound_ok l (by omega) (by omega))
  have HN := Lib.hid (Bound_ok (l + 1) (by omega) (by omega))
  simp only [hM.out] at HM
  simp only [hN.out] at HN
  clear hg gok hM hN
  generalize groupsI l = n at *
  go_enter Try.func12, Try.ntmps12
  go_wp2_with fail
  refine (HP.out _).mono ?_
  rintro e w1 ⟨rfl, b1⟩
  go_wp2_with fail
  refine (HM.out _).mono ?_
  rintro e w2 ⟨rfl, b2⟩
  go_wp2_with fail
  refine (PI.out _).mono ?_
  rintro e w3 ⟨rfl, b3⟩
  simp only [planV]
  have A3 := Bx.new w3 48 (.int .i64 p) (.bool false)
  have u0 := A3.c0
  have u1 := A3.c1
  have ul := A3.lt
  go_wp2_with fail
  refine (HS.out _).mono ?_
  rintro e w4 ⟨rfl, b4⟩
  go_wp2_with fail
  refine (HN.out _).mono ?_
  rintro e w5 ⟨rfl, b5⟩
  have A5 := (A3.below b4).below b5
  have v0 := A5.c0
  have vl := A5.lt
  go_wp2_with fail
  all_goals
    refine (PR.out _).mono ?_
    rintro e w6 ⟨rfl, b6⟩
    simp only [planV]
    have A6 := Bx.new w6 48 (.int .i64 q) (.bool s)
    have x0 := A6.c0
    have x1 := A6.c1
    have xl := A6.lt
    go_wp2_with fail
    all_goals
      refine (HG.out _).mono ?_
      rintro e w7 ⟨rfl, b7⟩
      go_wp2_with fail
      refine (HQ.out _).mono ?_
      rintro e w8 ⟨rfl, b8⟩
      go_wp2_with fail
      refine (known_any _).mono ?_
      rintro e w9 ⟨rfl, b9⟩
      go_wp2_with fail
      go_ret
      exact ⟨rfl, tr (tr (tr (tr (tr (tr (tr (tr b1 b2) b3) (tr (by go_grown) b4)) b5) b6) (tr (by go_grown) b7)) b8) b9⟩
theorem holds_low_again (hg : pow2 g = true) (h3 : 0 ≤ l) (h4 : 0 ≤ t) (h5 : l ≤ 8 * g) (h6 : t ≤ 8 * g - l) (hc : l + 1 ≤ 7340032)
    (M N p : Int) (r : Bool) (c : Int) (PI : RowKit.Hid (∀ w, Calls Try.prog 32 #[.int .i64 g, .int .i64 l, .int .i64 t] w fun e w' => e = .returned (planV p r c) ∧ Below w.heap.size w w'))
    (HI : c = 0 ∧ pow2 p = true ∧ r = true ∧ l < 7 * p ∧ (8 * g ≤ M → 8 * p ≤ N))
    (hM : RowKit.Hid (boundI l = M)) (hN : RowKit.Hid (boundI (l + 1) = N))
    (q : Int) (s : Bool) (PR : RowKit.Hid (∀ w, Calls Try.prog 34 #[.int .i64 g, .int .i64 l, .int .i64 t] w fun e w' => e = .returned (planV q s 0) ∧ Below w.heap.size w w'))
    (k0 : 0 ≤ q) (k1 : q ≤ 1048576) (k2 : l ≤ 8 * q) (k3 : l ≤ 7340032 → 8 * q ≤ M) :
    Calls Try.prog 12 #[.int .i64 g, .int .i64 l, .int .i64 t] w fun e w' => e = .returned (.bool true) ∧ Below w.heap.size w w' := by
  obtain ⟨h1, h2⟩ := pow2_range g hg
  have HP := Lib.hid (limit_ok g hg)
  obtain ⟨gok, gle⟩ := groupsI_ok l (by omega) (by omega)
  have HQ := Lib.hid (limit_ok (groupsI l) gok)
  obtain ⟨gr0, gr1⟩ := pow2_range _ gok
  have HG := Lib.hid (Groups_ok l (by omega) (by omega))
  obtain ⟨rfl, hp, rfl, hroom, key⟩ := HI
  obtain ⟨p1, p2⟩ := pow2_range p hp
  have HS := Lib.hid (limit_ok p hp)
  clear hp
  have HM := Lib.hid (Bound_ok l (by omega) (by omega))
  have HN := Lib.hid (Bound_ok (l + 1) (by omega) (by omega))
  simp only [hM.out] at HM
  simp only [hN.out] at HN
  clear hg gok hM hN
  generalize groupsI l = n at *
  go_enter Try.func12, Try.ntmps12
  go_wp2_with fail
  refine (HP.out _).mono ?_
  rintro e w1 ⟨rfl, b1⟩
  go_wp2_with fail
  refine (HM.out _).mono ?_
  rintro e w2 ⟨rfl, b2⟩
  go_wp2_with fail
  refine (PI.out _).mono ?_
  rintro e w3 ⟨rfl, b3⟩
  simp only [planV]
  have A3 := Bx.new w3 48 (.int .i64 p) (.bool true)
  have u0 := A3.c0
  have u1 := A3.c1
  have ul := A3.lt
  go_wp2_with fail
  refine (HS.out _).mono ?_
  rintro e w4 ⟨rfl, b4⟩
  go_wp2_with fail
  refine (HN.out _).mono ?_
  rintro e w5 ⟨rfl, b5⟩
  have A5 := (A3.below b4).below b5
  have v0 := A5.c0
  have vl := A5.lt
  go_wp2_with fail
  all_goals
    refine (PR.out _).mono ?_
    rintro e w6 ⟨rfl, b6⟩
    simp only [planV]
    have A6 := Bx.new w6 48 (.int .i64 q) (.bool s)
    have x0 := A6.c0
    have x1 := A6.c1
    have xl := A6.lt
    go_wp2_with fail
    all_goals
      refine (HG.out _).mono ?_
      rintro e w7 ⟨rfl, b7⟩
      go_wp2_with fail
      refine (HQ.out _).mono ?_
      rintro e w8 ⟨rfl, b8⟩
      go_wp2_with fail
      refine (known_any _).mono ?_
      rintro e w9 ⟨rfl, b9⟩
      go_wp2_with fail
      go_ret
      exact ⟨rfl, tr (tr (tr (tr (tr (tr (tr (tr b1 b2) b3) (tr (by go_grown) b4)) b5) b6) (tr (by go_grown) b7)) b8) b9⟩
theorem holds_top_full (hg : pow2 g = true) (h3 : 0 ≤ l) (h4 : 0 ≤ t) (h5 : l ≤ 8 * g) (h6 : t ≤ 8 * g - l) (hc : l = 7340032)
    (M p : Int) (r : Bool) (c : Int) (PI : RowKit.Hid (∀ w, Calls Try.prog 32 #[.int .i64 g, .int .i64 l, .int .i64 t] w fun e w' => e = .returned (planV p r c) ∧ Below w.heap.size w w'))
    (HI : c = 7 ∧ 7 * g ≤ l)
    (hM : RowKit.Hid (boundI 7340032 = M))
    (q : Int) (s : Bool) (PR : RowKit.Hid (∀ w, Calls Try.prog 34 #[.int .i64 g, .int .i64 l, .int .i64 t] w fun e w' => e = .returned (planV q s 0) ∧ Below w.heap.size w w'))
    (k0 : 0 ≤ q) (k1 : q ≤ 1048576) (k2 : l ≤ 8 * q) (k3 : l ≤ 7340032 → 8 * q ≤ M) :
    Calls Try.prog 12 #[.int .i64 g, .int .i64 l, .int .i64 t] w fun e w' => e = .returned (.bool true) ∧ Below w.heap.size w w' := by
  obtain ⟨h1, h2⟩ := pow2_range g hg
  have HP := Lib.hid (limit_ok g hg)
  obtain ⟨gok, gle⟩ := groupsI_ok 7340032 (by omega) (by omega)
  have HQ := Lib.hid (limit_ok (groupsI 7340032) gok)
  obtain ⟨gr0, gr1⟩ := pow2_range _ gok
  have HG := Lib.hid (Groups_ok 7340032 (by omega) (by omega))
  obtain ⟨rfl, hf⟩ := HI
  have HM := Lib.hid (Bound_ok 7340032 (by omega) (by omega))
  simp only [hM.out] at HM
  clear hg gok hM
  generalize groupsI 7340032 = n at *
  subst hc
  go_enter Try.func12, Try.ntmps12
  go_wp2_with fail
  refine (HP.out _).mono ?_
  rintro e w1 ⟨rfl, b1⟩
  go_wp2_with fail
  refine (HM.out _).mono ?_
  rintro e w2 ⟨rfl, b2⟩
  go_wp2_with fail
  refine (PI.out _).mono ?_
  rintro e w3 ⟨rfl, b3⟩
  simp only [planV]
  go_wp2_with fail
  all_goals
    refine (PR.out _).mono ?_
    rintro e w6 ⟨rfl, b6⟩
    simp only [planV]
    have A6 := Bx.new w6 48 (.int .i64 q) (.bool s)
    have x0 := A6.c0
    have x1 := A6.c1
    have xl := A6.lt
    go_wp2_with fail
    all_goals
      refine (HG.out _).mono ?_
      rintro e w7 ⟨rfl, b7⟩
      go_wp2_with fail
      refine (HQ.out _).mono ?_
      rintro e w8 ⟨rfl, b8⟩
      go_wp2_with fail
      refine (known_any _).mono ?_
      rintro e w9 ⟨rfl, b9⟩
      go_wp2_with fail
      go_ret
      exact ⟨rfl, tr (tr (tr (tr (tr (tr b1 b2) b3) (tr (by go_grown) b6)) (tr (by go_grown) b7)) b8) b9⟩
theorem holds_high_full (hg : pow2 g = true) (h3 : 0 ≤ l) (h4 : 0 ≤ t) (h5 : l ≤ 8 * g) (h6 : t ≤ 8 * g - l) (hc : 7340032 < l)
    (M p : Int) (r : Bool) (c : Int) (PI : RowKit.Hid (∀ w, Calls Try.prog 32 #[.int .i64 g, .int .i64 l, .int .i64 t] w fun e w' => e = .returned (planV p r c) ∧ Below w.heap.size w w'))
    (HI : c = 7 ∧ 7 * g ≤ l)
    (hM : RowKit.Hid (boundI 7340032 = M))
    (q : Int) (s : Bool) (PR : RowKit.Hid (∀ w, Calls Try.prog 34 #[.int .i64 g, .int .i64 l, .int .i64 t] w fun e w' => e = .returned (planV q s 0) ∧ Below w.heap.size w w'))
    (k0 : 0 ≤ q) (k1 : q ≤ 1048576) (k2 : l ≤ 8 * q) (_k3 : l ≤ 7340032 → 8 * q ≤ M) :
    Calls Try.prog 12 #[.int .i64 g, .int .i64 l, .int .i64 t] w fun e w' => e = .returned (.bool true) ∧ Below w.heap.size w w' := by
  obtain ⟨h1, h2⟩ := pow2_range g hg
  have HP := Lib.hid (limit_ok g hg)
  obtain ⟨gok, gle⟩ := groupsI_ok 7340032 (by omega) (by omega)
  have HQ := Lib.hid (limit_ok (groupsI 7340032) gok)
  obtain ⟨gr0, gr1⟩ := pow2_range _ gok
  have HG := Lib.hid (Groups_ok 7340032 (by omega) (by omega))
  obtain ⟨rfl, hf⟩ := HI
  have HM := Lib.hid (Bound_ok 7340032 (by omega) (by omega))
  simp only [hM.out] at HM
  clear hg gok hM
  generalize groupsI 7340032 = n at *
  go_enter Try.func12, Try.ntmps12
  go_wp2_with fail
  refine (HP.out _).mono ?_
  rintro e w1 ⟨rfl, b1⟩
  go_wp2_with fail
  refine (HM.out _).mono ?_
  rintro e w2 ⟨rfl, b2⟩
  go_wp2_with fail
  refine (PI.out _).mono ?_
  rintro e w3 ⟨rfl, b3⟩
  simp only [planV]
  go_wp2_with fail
  all_goals
    refine (PR.out _).mono ?_
    rintro e w6 ⟨rfl, b6⟩
    simp only [planV]
    have A6 := Bx.new w6 48 (.int .i64 q) (.bool s)
    have x0 := A6.c0
    have x1 := A6.c1
    have xl := A6.lt
    go_wp2_with fail
    all_goals
      refine (HG.out _).mono ?_
      rintro e w7 ⟨rfl, b7⟩
      go_wp2_with fail
      refine (HQ.out _).mono ?_
      rintro e w8 ⟨rfl, b8⟩
      go_wp2_with fail
      refine (known_any _).mono ?_
      rintro e w9 ⟨rfl, b9⟩
      go_wp2_with fail
      go_ret
      exact ⟨rfl, tr (tr (tr (tr (tr (tr b1 b2) b3) (tr (by go_grown) b6)) (tr (by go_grown) b7)) b8) b9⟩

theorem holds_any :
    Calls Try.prog 12 #[.int .i64 g, .int .i64 l, .int .i64 t] w fun e w' => e = .returned (.bool true) ∧ Below w.heap.size w w' := by
  cases hg : pow2 g
  · exact holds_groups g l t w hg
  cases hb : badLanes g l t
  case true => exact holds_lanes g l t w g0 g1 l0 l1 t0 t1 hg hb
  obtain ⟨h1, h2⟩ := pow2_range g hg
  obtain ⟨h3, h4, h5, h6⟩ := (lanes_good g l t).1 hb
  obtain ⟨p, r, c, pi, -, hi⟩ := insert_both g l t g0 g1 l0 l1
  obtain ⟨q, s, d, pr, -, hr⟩ := remove_both g l t g0 g1 l0 l1
  have hi' := (hi.resolve_left (by rintro ⟨_, h, _⟩; simp [hg] at h)).resolve_left (by rintro ⟨_, _, h, _⟩; simp [hb] at h)
  obtain ⟨-, -, hi'⟩ := hi'
  have hr' := (hr.resolve_left (by rintro ⟨_, h, _⟩; simp [hg] at h)).resolve_left (by rintro ⟨_, _, h, _⟩; simp [hb] at h)
  obtain ⟨rfl, -, -, hr'⟩ := hr'
  have hlow := (boundI_low l h3 (by omega)).1
  have h8 := boundI_eight l h3 (by omega)
  have k : 0 ≤ q ∧ q ≤ 1048576 ∧ l ≤ 8 * q ∧ (l ≤ 7340032 → 8 * q ≤ boundI l) := by
    rcases hr' with ⟨rfl, _, a, b⟩ | ⟨rfl, _, a⟩ <;> (refine ⟨?_, ?_, ?_, fun _ => ?_⟩ <;> omega)
  obtain ⟨k0, k1, k2, k3⟩ := k
  rcases (by omega : l + 1 ≤ 7340032 ∨ l = 7340032 ∨ 7340032 < l) with hc | hc | hc
  · rcases ins_ok g l t hg h5 (boundI l) (boundI (l + 1)) (boundI_le _ _ (by omega) (by omega)) (fun _ h => (boundI_twice g l hg h (by omega)).resolve_right (by omega)) p r c hi' with a | a | a
    · exact holds_low_full g l t w g0 g1 l0 l1 t0 t1 hg h3 h4 h5 h6 hc _ p r c pi a rfl q s pr k0 k1 k2 k3
    · exact holds_low_keep g l t w g0 g1 l0 l1 t0 t1 hg h3 h4 h5 h6 hc _ _ p r c pi a rfl rfl q s pr k0 k1 k2 k3
    · exact holds_low_again g l t w g0 g1 l0 l1 t0 t1 hg h3 h4 h5 h6 hc _ _ p r c pi a rfl rfl q s pr k0 k1 k2 k3
  · have hN : 2 * g ≤ 1048576 → 7 * g < 2 * l → 16 * g ≤ boundI 7340032 := fun _ h => by omega
    rcases ins_ok g l t hg h5 (boundI 7340032) (boundI 7340032) (Int.le_refl _) hN p r c hi' with a | a | a
    · exact holds_top_full g l t w g0 g1 l0 l1 t0 t1 hg h3 h4 h5 h6 hc _ p r c pi a rfl q s pr k0 k1 k2 (fun h => by rw [← hc]; exact k3 (by omega))
    · obtain ⟨_, a1, _, a2, _⟩ := a
      have := pow2_range p a1
      exact absurd a2 (by omega)
    · obtain ⟨_, a1, _, a2, _⟩ := a
      have := pow2_range p a1
      exact absurd a2 (by omega)
  · have hN : 2 * g ≤ 1048576 → 7 * g < 2 * l → 16 * g ≤ boundI 7340032 := fun _ h => by omega
    rcases ins_ok g l t hg h5 (boundI 7340032) (boundI 7340032) (Int.le_refl _) hN p r c hi' with a | a | a
    · exact holds_high_full g l t w g0 g1 l0 l1 t0 t1 hg h3 h4 h5 h6 hc _ p r c pi a rfl q s pr k0 k1 k2 (fun h => absurd h (by omega))
    · obtain ⟨_, a1, _, a2, _⟩ := a
      have := pow2_range p a1
      exact absurd a2 (by omega)
    · obtain ⟨_, a1, _, a2, _⟩ := a
      have := pow2_range p a1
      exact absurd a2 (by omega)
end
end Go.Proofs.Ytdilhldaipjhoaa.Grow
