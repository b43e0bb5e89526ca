/-
  Walks over the reference of layer 33: new sketches.
-/
import Derived.Test.YtohldfhelppehaaBloF
import Derived.Test.YtohldfhelppehaaBloD
set_option linter.unusedVariables false
set_option linter.unusedSimpArgs false
namespace Go.Proofs.Ytohldfhelppehaa.Skt
open Go.RowKit Kit Hash Blo
/-- whether b is 16 times one of the first j powers of two -/
def pwS (b : Int) : Nat → Bool
  | 0 => false
  | j + 1 => pwS b j || ((16 * 2 ^ j : Nat) : Int) == b
theorem pwS_ok {b : Int} : ∀ {j : Nat}, pwS b j = true → ∃ i, i < j ∧ b = ((16 * 2 ^ i : Nat) : Int)
  | 0, h => by simp [pwS] at h
  | j + 1, h => by
    rw [pwS, Bool.or_eq_true] at h
    rcases h with h | h
    · obtain ⟨i, h1, h2⟩ := pwS_ok h; exact ⟨i, by omega, h2⟩
    · exact ⟨j, by omega, (eq_of_beq h).symm⟩
theorem pwS_of {b : Int} {i : Nat} (hb : b = ((16 * 2 ^ i : Nat) : Int)) : ∀ {j : Nat}, i < j → pwS b j = true
  | 0, h => by omega
  | j + 1, h => by
    rw [pwS]
    by_cases h1 : i = j
    · subst h1; simp [hb]
    · rw [pwS_of hb (j := j) (by omega)]; rfl
/-- what is allowed -/
def als (b m : Int) : Bool := pwS b 13 && decide (0 ≤ m) && decide (m ≤ 16777216)
theorem info_i64 : (Try.prog.info? 3).map (fun i => (i.zero, i.size, i.bytes)) = some (some (.int .i64 0), 1, 8) := by kernel_rfl
/-- a sketch of the reference, as a value -/
def sk (b m t sd : Int) (n r1 c1 r2 c2 r3 c3 r4 c4 : Nat) : Value := .agg #[.int .i64 b, .int .i64 m, .int .i64 t, .int .u64 sd, .slice (some ⟨r1, 0, none⟩) n c1, .slice (some ⟨r2, 0, none⟩) n c2, .slice (some ⟨r3, 0, none⟩) n c3, .slice (some ⟨r4, 0, none⟩) n c4]
def sk0 : Value := .agg #[.int .i64 0, .int .i64 0, .int .i64 0, .int .u64 0, .slice none 0 0, .slice none 0 0, .slice none 0 0, .slice none 0 0]
/-- a row of counters -/
def Sr (w : World) (r n : Nat) (f : Nat → Nat) : Prop := Row w r n 3 (fun i => .int .i64 (f i : Nat))
theorem Sr.new (W : World) (n : Nat) : Sr (W.alloc (.cells (madeCells #[.int .i64 0] n) 3)) W.heap.size n (fun _ => 0) := Row.made W (.int .i64 0) rfl n 3
def rO (n : Nat) : Obj := .cells (madeCells #[.int .i64 0] n) 3
theorem row_a {X : World} {n ρ : Nat} (h : ρ = X.heap.size) : Sr ((((X.alloc (rO n)).alloc (rO n)).alloc (rO n)).alloc (rO n)) ρ n (fun _ => 0) := by subst h; exact Row.alloc (Row.alloc (Row.alloc (Sr.new X n) _) _) _
theorem row_b {X : World} {n ρ : Nat} (h : ρ = X.heap.size + 1) : Sr ((((X.alloc (rO n)).alloc (rO n)).alloc (rO n)).alloc (rO n)) ρ n (fun _ => 0) := by subst h; rw [← World.size_alloc X (rO n)]; exact Row.alloc (Row.alloc (Sr.new _ n) _) _
theorem row_c {X : World} {n ρ : Nat} (h : ρ = X.heap.size + 1 + 1) : Sr ((((X.alloc (rO n)).alloc (rO n)).alloc (rO n)).alloc (rO n)) ρ n (fun _ => 0) := by subst h; rw [← World.size_alloc X (rO n), ← World.size_alloc (X.alloc (rO n)) (rO n)]; exact Row.alloc (Sr.new _ n) _
theorem row_d {X : World} {n ρ : Nat} (h : ρ = X.heap.size + 1 + 1 + 1) : Sr ((((X.alloc (rO n)).alloc (rO n)).alloc (rO n)).alloc (rO n)) ρ n (fun _ => 0) := by subst h; rw [← World.size_alloc X (rO n), ← World.size_alloc (X.alloc (rO n)) (rO n), ← World.size_alloc ((X.alloc (rO n)).alloc (rO n)) (rO n)]; exact Sr.new _ n
/-- a variable that holds an empty sketch of the reference -/
def zO : Obj := .cells #[.int .i64 0, .int .i64 0, .int .i64 0, .int .u64 0, .slice none 0 0, .slice none 0 0, .slice none 0 0, .slice none 0 0] 62
set_option maxRecDepth 100000 in
set_option maxHeartbeats 1000000 in
theorem snew_any {W : World} {m sd b : Int} (hb0 : -9223372036854775808 ≤ b) (hb1 : b < 9223372036854775808) (hh0 : -9223372036854775808 ≤ m) (hh1 : m < 9223372036854775808) :
    Calls Try.prog 30 #[.int .i64 b, .int .u64 sd, .int .i64 m] W fun e w' => Below W.heap.size W w' ∧ ((als b m = true ∧ ∃ r1 r2 r3 r4, e = .returned (.tuple #[sk b m 0 sd b.toNat r1 b.toNat r2 b.toNat r3 b.toNat r4 b.toNat, .int .i64 0]) ∧ Sr w' r1 b.toNat (fun _ => 0) ∧ Sr w' r2 b.toNat (fun _ => 0) ∧ Sr w' r3 b.toNat (fun _ => 0) ∧ Sr w' r4 b.toNat (fun _ => 0) ∧ W.heap.size ≤ r1 ∧ r1 < r2 ∧ r2 < r3 ∧ r3 < r4) ∨ (als b m = false ∧ e = .returned (.tuple #[sk0, .int .i64 2]))) := by
  have HMK := Lib.hid (fun (h : 0 ≤ b) (h1 : b ≤ 65536) w => make_any (P := Try.prog) w 36 3 (.int .i64 0) 1 8 (by kernel_rfl) (by kernel_rfl) b h (by omega) (by omega))
  go_enter Try.func30, Try.ntmps30
  go_wp2_with fail
  go_loopw [8, 9] (fun u i wr => ∃ (j N : Nat), j ≤ 13 ∧ N = 16 * 2 ^ j ∧ i = .int .i64 (N : Int) ∧ u = .bool (pwS b j) ∧ wr = W.alloc zO) (fun _ i _ => (4194304 - intOf i).toNat)
  case atStart => exact ⟨0, 16, by omega, rfl, rfl, rfl, rfl⟩
  case round =>
    obtain ⟨j, N, hj, hN, rfl, rfl, rfl⟩ := hrel
    have HN := Lib.hid hN
    clear hN
    by_cases hlt : j < 13
    · have hN1 : 1 ≤ N ∧ N ≤ 65536 := by
        have hp : 2 ^ j ≤ 2 ^ 12 := Nat.pow_le_pow_right (by decide) (by omega)
        have hp1 : 1 ≤ 2 ^ j := Nat.one_le_two_pow
        have := HN.out; omega
      have hw : wrap64 ((N : Int) * 2) = (N : Int) * 2 := IntWalk.wrap64_in _ (by omega)
      have HP := Lib.hid (show pwS b (j + 1) = (pwS b j || ((N : Nat) : Int) == b) by rw [HN.out]; rfl)
      have HN2 := Lib.hid (show N * 2 = 16 * 2 ^ (j + 1) by rw [HN.out, Nat.pow_succ]; omega)
      cases hp : pwS b j
      · go_wp2_with fail
        go_roundw
        case rel => exact ⟨j + 1, N * 2, by omega, HN2.out, by simp, by rw [HP.out, hp]; simp, trivial⟩
        case measure => simp [intOf] <;> omega
      · go_wp2_with fail
        go_roundw
        case rel => exact ⟨j + 1, N * 2, by omega, HN2.out, by simp, by rw [HP.out, hp]; rfl, trivial⟩
        case measure => simp [intOf] <;> omega
    · obtain rfl : j = 13 := by omega
      have hN1 : N = 131072 := by have := HN.out; omega
      subst hN1
      cases hp : pwS b 13
      · have ha : als b m = false := by unfold als; rw [hp]; rfl
        have HA := Lib.hid ha
        clear ha HN
        unfold zO
        go_wp2_with fail
        refine bodyPost_ret (v := .tuple #[sk0, .int .i64 2]) (by simp [sk0, results, Try.results30, go_sem]) rfl ⟨by go_grown, .inr ⟨HA.out, rfl⟩⟩
      · have HA := Lib.hid (show als b m = (decide (0 ≤ m) && decide (m ≤ 16777216)) by unfold als; rw [hp]; rfl)
        obtain ⟨i, hi, hbi⟩ := pwS_ok hp
        have hpi : 2 ^ i ≤ 2 ^ 12 := Nat.pow_le_pow_right (by decide) (by omega)
        have hq0 : 0 ≤ b := by omega
        have hq1 : b ≤ 65536 := by omega
        have hmk := HMK.out hq0 hq1
        clear hbi hpi HN hb0 hb1
        unfold zO
        by_cases h1 : m < 0
        · go_wp2_with fail
          refine bodyPost_ret (v := .tuple #[sk0, .int .i64 2]) (by simp [sk0, results, Try.results30, go_sem]) rfl ⟨by go_grown, .inr ⟨by rw [HA.out]; simp; omega, rfl⟩⟩
        · by_cases h2 : 16777216 < m
          · go_wp2_with fail
            refine bodyPost_ret (v := .tuple #[sk0, .int .i64 2]) (by simp [sk0, results, Try.results30, go_sem]) rfl ⟨by go_grown, .inr ⟨by rw [HA.out]; simp; omega, rfl⟩⟩
          · go_wp2_with fail
            refine wp_loop_rounds 5 ?_
            repeat any_goals (rw [rounds_succ]; go_wp2_with fail)
            refine bodyPost_ret (v := .tuple #[sk b m 0 sd b.toNat (W.heap.size + 1 + 1) b.toNat (W.heap.size + 1 + 1 + 1) b.toNat (W.heap.size + 1 + 1 + 1 + 1) b.toNat (W.heap.size + 1 + 1 + 1 + 1 + 1) b.toNat, .int .i64 0]) (by simp [sk, results, Try.results30, go_sem]) rfl ⟨by go_grown, .inl ⟨by rw [HA.out]; simp; omega, _, _, _, _, rfl, ?_, ?_, ?_, ?_, by omega, by omega, by omega, by omega⟩⟩
            · exact row_a (by simp)
            · exact row_b (by simp)
            · exact row_c (by simp)
            · exact row_d (by simp)
end Go.Proofs.Ytohldfhelppehaa.Skt
