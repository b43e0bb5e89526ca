/-
  Sets of lanes and the reference's Match, for the layers above words.
-/
import Derived.Test.YtngdbkegebmonaaDoorWordW
import Derived.Test.YtngdbkegebmonaaDoorKit

set_option linter.unusedVariables false
set_option linter.unusedSimpArgs false
namespace Go.Proofs.YtngdbkegebmonaaDoor.Word
open Go.RowKit Kit
def lstP (p : Nat → Bool) (k : Nat) : List Int := ((List.range k).filter p).map Int.ofNat
theorem lstP_hit (p : Nat → Bool) (k : Nat) (h : p k = true) : lstP p (k + 1) = lstP p k ++ [(k : Int)] := by
  unfold lstP; rw [List.range_succ, List.filter_append]; simp [h]
theorem lstP_miss (p : Nat → Bool) (k : Nat) (h : p k = false) : lstP p (k + 1) = lstP p k := by
  unfold lstP; rw [List.range_succ, List.filter_append]; simp [h]
theorem lstP_len (p : Nat → Bool) (k : Nat) : (lstP p k).length ≤ k := by
  unfold lstP; rw [List.length_map]; exact Nat.le_trans (List.length_filter_le _ _) (by simp)
theorem lstP_mem (p : Nat → Bool) (k : Nat) (i : Int) (h : i ∈ lstP p k) : 0 ≤ i ∧ i < k := by
  unfold lstP at h
  rw [List.mem_map] at h
  obtain ⟨a, ha, rfl⟩ := h
  rw [List.mem_filter, List.mem_range] at ha
  exact ⟨Int.natCast_nonneg _, Int.ofNat_lt.2 ha.1⟩
theorem info_int : (Tryd.prog.info? 3).map (fun i => (i.zero, i.size, i.bytes)) = some (some (.int .i64 0), 1, 8) := by kernel_rfl
def setL (l : List Int) : Int := l.foldl (fun s i => bits .or .u8 s (2 ^ i.toNat % 256)) 0
theorem setL_snoc (l : List Int) (i : Int) : setL (l ++ [i]) = bits .or .u8 (setL l) (2 ^ i.toNat % 256) := by
  unfold setL; rw [List.foldl_append]; rfl
set_option maxHeartbeats 1000000 in
theorem rset_any (g : Nat) (l : List Int) (cap : Nat) (w : World) (hl : l.length ≤ 8) (hi : ∀ i ∈ l, 0 ≤ i ∧ i < 8)
    (hc : ∀ j, j < l.length → w.cell? ⟨g, j, none⟩ = some (.int .i64 (l.getD j 0))) :
    Calls Tryd.prog 44 #[.slice (some ⟨g, 0, none⟩) l.length cap] w fun e w' => e = .returned (.int .u8 (setL l)) ∧ w = w' := by
  go_enter Tryd.func44, Tryd.ntmps44
  go_wp2
  go_loop [3, 4] (fun s i => ∃ k : Nat, k ≤ l.length ∧ i = .int .i64 k ∧ s = .int .u8 (setL (l.take k))) (fun _ i => l.length - (intOf i).toNat)
  case atStart => exact ⟨0, by omega, rfl, rfl⟩
  case round =>
    obtain ⟨k, hk, rfl, rfl⟩ := hrel
    by_cases hlt : k < l.length
    · have hx := hi l[k] (List.getElem_mem hlt)
      have hcx := hc k hlt
      rw [show l.getD k 0 = l[k] from by simp [hlt]] at hcx
      have HS := Lib.hid (setL_snoc (l.take k) l[k])
      have HT := Lib.hid (List.take_succ_eq_append_getElem hlt)
      generalize l[k] = x at *
      obtain ⟨x0, x1⟩ := hx
      clear hi hc
      go_wp2
      go_round
      case rel => exact ⟨k + 1, by omega, by go_num, by rw [HT.out, HS.out]⟩
      case measure => simp [intOf]; omega
    · go_wp2
      go_ret
      exact ⟨ret_int (by rw [List.take_of_length_le (by omega)]), rfl⟩
set_option maxHeartbeats 400000 in
theorem rset_nil (w : World) :
    Calls Tryd.prog 44 #[.slice none 0 0] w fun e w' => e = .returned (.int .u8 (setL [])) ∧ w = w' := by
  go_enter Tryd.func44, Tryd.ntmps44
  go_wp2
  go_rounds 1
  go_ret
  exact ⟨rfl, rfl⟩
theorem rset_own (base : Nat) (v : Value) (l : List Int) (w : World) (hl : l.length ≤ 8) (hi : ∀ i ∈ l, 0 ≤ i ∧ i < 8) (hown : w.ownsRow base 3 1 v l.length (l.map (Value.int .i64))) :
    Calls Tryd.prog 44 #[v] w fun e w' => e = .returned (.int .u8 (setL l)) ∧ w = w' := by
  rcases own_cases hown with ⟨rfl, rfl⟩ | ⟨g, cap, rfl, _, _, _, _, hc⟩
  · exact rset_nil w
  · exact rset_any g l cap w hl hi (fun j hj => by rw [hc j hj, show l.getD j 0 = l[j] from by simp [hj]])
theorem lstP_step (p : Nat → Bool) (k : Nat) : lstP p (k + 1) = lstP p k ++ (if p k then [(k : Int)] else []) := by
  cases h : p k
  · rw [lstP_miss p k h]; simp
  · rw [lstP_hit p k h]; simp
theorem setL_bits : ∀ b0 b1 b2 b3 b4 b5 b6 b7 : Bool,
    setL ([] ++ (if b0 then [0] else []) ++ (if b1 then [1] else []) ++ (if b2 then [2] else []) ++ (if b3 then [3] else []) ++ (if b4 then [4] else []) ++ (if b5 then [5] else []) ++ (if b6 then [6] else []) ++ (if b7 then [7] else [])) =
      ((WordM.bit b0 + 2 * (WordM.bit b1 + 2 * (WordM.bit b2 + 2 * (WordM.bit b3 + 2 * (WordM.bit b4 + 2 * (WordM.bit b5 + 2 * (WordM.bit b6 + 2 * WordM.bit b7)))))) : Nat) : Int) := by decide +kernel
theorem setL_lstP (p : Nat → Bool) : setL (lstP p 8) = setI p := by
  rw [lstP_step, lstP_step, lstP_step, lstP_step, lstP_step, lstP_step, lstP_step, lstP_step]
  exact setL_bits (p 0) (p 1) (p 2) (p 3) (p 4) (p 5) (p 6) (p 7)
set_option maxRecDepth 100000 in
set_option maxHeartbeats 2000000 in
theorem rmatch_any (x f t : Int) (h0 : 0 ≤ x) (h1 : x < 18446744073709551616) (w : World) :
    Calls Tryd.prog 32 #[.int .u64 x, .int .u8 f, .int .u8 t] w fun e w' => e = .returned (.int .u8 (setI (fun i => decide (f ≤ lane x i) && decide (lane x i ≤ t)))) ∧ Below w.heap.size w w' := by
  obtain ⟨i0, hi, hz0, hz1, hz2⟩ := info_parts info_int
  rw [← setL_lstP]
  generalize hp : (fun i => decide (f ≤ lane x i) && decide (lane x i ≤ t)) = p
  have HP := Lib.hid hp
  clear hp
  go_enter Tryd.func32, Tryd.ntmps32
  go_wp2
  go_loopw [7, 8] (fun v i wr => ∃ k : Nat, k ≤ 8 ∧ i = .int .i64 k ∧ wr.ownsRow w.heap.size 3 1 v (lstP p k).length ((lstP p k).map (Value.int .i64)) ∧ Below w.heap.size w wr)
    (fun _ i _ => 8 - (intOf i).toNat)
  case atStart => exact ⟨0, by omega, rfl, World.ownsRow_nil _ _ _ _, Below.refl _ _⟩
  case round =>
    obtain ⟨k, hk, rfl, hown, hbel⟩ := hrel
    by_cases hlt : k < 8
    · have hll := lstP_len p k
      by_cases ha : f ≤ lane x k
      · have ha2 : decide (f ≤ lane x k) = true := by simpa using ha
        by_cases hb : lane x k ≤ t
        · have HH := Lib.hid (lstP_hit p k (by rw [← HP.out]; simp [ha, hb]))
          go_wp2_with (first
            | (go_at_call 25; refine (rlane_any x k h0 h1 (by omega) _).mono ?_; rintro e w' ⟨rfl, rfl⟩)
            | (at_builtin; refine wpList_app1 rfl (.tmp 25) (.tmp 27) 57 rfl w.heap.size 3 i0 (.int .i64 0) 8 Tryd.underlying57 hi hz0 hz1 hz2 rfl _ _ _ (.int .i64 k) rfl hown rfl rfl ?_ ?_ hbel.size ?_))
          · omega
          · omega
          · intro v1 w1 hown1 hb1 _
            go_wp2
            go_roundw
            case rel => exact ⟨k + 1, by omega, by go_num, by rw [HH.out, List.map_append, List.length_append]; exact hown1, hbel.trans hb1⟩
            case measure => simp [intOf]; omega
        · have HH := Lib.hid (lstP_miss p k (by rw [← HP.out]; simp; omega))
          go_wp2_with (go_at_call 25; refine (rlane_any x k h0 h1 (by omega) _).mono ?_; rintro e w' ⟨rfl, rfl⟩)
          go_roundw
          case rel => exact ⟨k + 1, by omega, by go_num, by rw [HH.out]; exact hown, hbel⟩
          case measure => simp [intOf]; omega
      · have HH := Lib.hid (lstP_miss p k (by rw [← HP.out]; simp; omega))
        go_wp2_with (go_at_call 25; refine (rlane_any x k h0 h1 (by omega) _).mono ?_; rintro e w' ⟨rfl, rfl⟩)
        go_roundw
        case rel => exact ⟨k + 1, by omega, by go_num, by rw [HH.out]; exact hown, hbel⟩
        case measure => simp [intOf]; omega
    · obtain rfl : k = 8 := by omega
      have hll := lstP_len p 8
      have hlm := lstP_mem p 8
      generalize hL : lstP p 8 = l at *
      have HL := Lib.hid hL.symm
      clear hL
      go_wp2_with fail
      refine (rset_own _ _ l _ hll hlm hown).mono ?_
      rintro e w1 ⟨rfl, rfl⟩
      go_wp2_with fail
      go_ret
      exact ⟨ret_int (by rw [HL.out]), hbel⟩
theorem arr8 (w : World) (a0 a1 a2 a3 a4 a5 a6 a7 : Int) :
    (Op.equalIn 10000 44 (.agg #[.int .u8 a0, .int .u8 a1, .int .u8 a2, .int .u8 a3, .int .u8 a4, .int .u8 a5, .int .u8 a6, .int .u8 a7]) (.agg #[.int .u8 a0, .int .u8 a1, .int .u8 a2, .int .u8 a3, .int .u8 a4, .int .u8 a5, .int .u8 a6, .int .u8 a7])).run Tryd.prog w = .ok true w := by
  have e : ∀ (a b : Int) (w : World), (Op.equalIn 9999 5 (.int .u8 a) (.int .u8 b)).run Tryd.prog w = .ok (a == b) w := fun a b w => run_equalIn_int w 9998 5 .u8 .u8 a b Tryd.underlying5
  rw [show (10000 : Nat) = 9999 + 1 from rfl, Op.equalIn]
  simp [run_underlying Tryd.underlying44, List.range', part, isAgg, run_underlying Tryd.underlying5, e]
theorem and_two (a A b B : Nat) (ha : a < 2) (hb : b < 2) : (a + 2 * A) &&& (b + 2 * B) = (a &&& b) + 2 * (A &&& B) := by
  have h1 : ((a + 2 * A) &&& (b + 2 * B)) % 2 ^ 1 = (a &&& b) := by
    rw [Nat.and_mod_two_pow, show (a + 2 * A) % 2 ^ 1 = a by omega, show (b + 2 * B) % 2 ^ 1 = b by omega]
  have h2 : ((a + 2 * A) &&& (b + 2 * B)) / 2 ^ 1 = (A &&& B) := by
    rw [Nat.and_div_two_pow, show (a + 2 * A) / 2 ^ 1 = A by omega, show (b + 2 * B) / 2 ^ 1 = B by omega]
  rw [← Nat.mod_add_div ((a + 2 * A) &&& (b + 2 * B)) (2 ^ 1), h1, h2]
theorem or_two (a A b B : Nat) (ha : a < 2) (hb : b < 2) : (a + 2 * A) ||| (b + 2 * B) = (a ||| b) + 2 * (A ||| B) := by
  have h1 : ((a + 2 * A) ||| (b + 2 * B)) % 2 ^ 1 = (a ||| b) := by
    rw [Nat.or_mod_two_pow, show (a + 2 * A) % 2 ^ 1 = a by omega, show (b + 2 * B) % 2 ^ 1 = b by omega]
  have h2 : ((a + 2 * A) ||| (b + 2 * B)) / 2 ^ 1 = (A ||| B) := by
    rw [Nat.or_div_two_pow, show (a + 2 * A) / 2 ^ 1 = A by omega, show (b + 2 * B) / 2 ^ 1 = B by omega]
  rw [← Nat.mod_add_div ((a + 2 * A) ||| (b + 2 * B)) (2 ^ 1), h1, h2]
theorem bit_lt (p : Bool) : WordM.bit p < 2 := by cases p <;> decide
theorem bit_and (p q : Bool) : WordM.bit p &&& WordM.bit q = WordM.bit (p && q) := by cases p <;> cases q <;> decide
theorem bit_or (p q : Bool) : WordM.bit p ||| WordM.bit q = WordM.bit (p || q) := by cases p <;> cases q <;> decide
theorem setN_and (p q : Nat → Bool) : WordM.setN p &&& WordM.setN q = WordM.setN (fun i => p i && q i) := by
  unfold WordM.setN
  repeat rw [and_two _ _ _ _ (bit_lt _) (bit_lt _)]
  simp only [bit_and]
theorem setN_or (p q : Nat → Bool) : WordM.setN p ||| WordM.setN q = WordM.setN (fun i => p i || q i) := by
  unfold WordM.setN
  repeat rw [or_two _ _ _ _ (bit_lt _) (bit_lt _)]
  simp only [bit_or]
theorem setI_and (p q : Nat → Bool) : bits .and .u8 (setI p) (setI q) = setI (fun i => p i && q i) := by
  unfold setI; rw [u8_and_nat _ _ (WordM.setN_lt _) (WordM.setN_lt _), setN_and]
theorem setI_or (p q : Nat → Bool) : bits .or .u8 (setI p) (setI q) = setI (fun i => p i || q i) := by
  unfold setI; rw [u8_or_nat _ _ (WordM.setN_lt _) (WordM.setN_lt _), setN_or]
theorem setI_congr (p q : Nat → Bool) (h : ∀ i, p i = q i) : setI p = setI q := by unfold setI; rw [WordM.setN_congr p q (fun i _ => h i)]
theorem setI_bound (p : Nat → Bool) : 0 ≤ setI p ∧ setI p < 256 := by have := WordM.setN_lt p; unfold setI; omega
theorem setI_bit (p : Nat → Bool) (k : Nat) (hk : k < 8) (hp : p k = true) : setI p / 2 ^ k % 2 = 1 := by
  have h : WordM.setN p / 2 ^ k % 2 = 1 := by
    have b0 := bit_lt (p 0); have b1 := bit_lt (p 1); have b2 := bit_lt (p 2); have b3 := bit_lt (p 3)
    have b4 := bit_lt (p 4); have b5 := bit_lt (p 5); have b6 := bit_lt (p 6); have b7 := bit_lt (p 7)
    have hb : WordM.bit (p k) = 1 := by rw [hp]; rfl
    unfold WordM.setN
    obtain rfl | rfl | rfl | rfl | rfl | rfl | rfl | rfl := eight k hk
    all_goals (simp only [Nat.reducePow]; omega)
  unfold setI
  have e : (2 ^ k : Int) = ((2 ^ k : Nat) : Int) := by rw [Int.natCast_pow]; rfl
  rw [e, ← Int.natCast_ediv]; omega
end Go.Proofs.YtngdbkegebmonaaDoor.Word
