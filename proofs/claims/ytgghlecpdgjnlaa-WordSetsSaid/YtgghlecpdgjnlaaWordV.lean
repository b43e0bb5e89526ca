/-
  Walks over package word (layer 1) and its reference, second part: bytes that come in, sets of lanes.
-/
import Derived.Test.YtgghlecpdgjnlaaWordW
import Derived.Test.YtgghlecpdgjnlaaKit
import Derived.Test.YtgghlecpdgjnlaaShelf
import Derived.RangeFuncNested
import Derived.RangeFuncBound
import Derived.RangeFuncCalls
import Derived.RangeFuncLeaves
import Derived.Shelf.Abstract
import Derived.Shelf.RegionOpen
import Derived.OwnWalkIn
import Derived.TacticsInMore
import Derived.LoopNIn
import Derived.LoopIn
namespace Go.Proofs.Ytgghlecpdgjnlaa.Word
open Go.RowKit Kit

theorem orp (a b : Int) (i : Nat) (h0 : 0 ≤ a) (ha : a < 2 ^ i) (hb : 0 ≤ b) (hs : a + b * 2 ^ i < 18446744073709551616) : bits .or .u64 a (b * 2 ^ i) = a + b * 2 ^ i := by
  obtain ⟨n, rfl⟩ := Int.eq_ofNat_of_zero_le h0
  obtain ⟨m, rfl⟩ := Int.eq_ofNat_of_zero_le hb
  have e : ((m : Int) * 2 ^ i) = ((m * 2 ^ i : Nat) : Int) := by rw [Int.natCast_mul, Int.natCast_pow]; rfl
  have hn : n < 2 ^ i := by
    have e2 : (2 ^ i : Int) = ((2 ^ i : Nat) : Int) := by rw [Int.natCast_pow]; rfl
    rw [e2] at ha; omega
  rw [e] at hs ⊢
  rw [u64_or_nat _ _ (by omega) (by omega), Nat.or_comm, nat_join i _ _ (Nat.mul_mod_left _ _) hn]
  omega

set_option maxHeartbeats 1000000 in
theorem load_any (bl off len cap : Nat) (z0 z1 z2 z3 z4 z5 z6 z7 : Int) (w : World) (hl : 8 ≤ len) (hc : len ≤ cap) (hm : cap ≤ maxLen)
    (k0 : 0 ≤ z0 ∧ z0 < 256) (k1 : 0 ≤ z1 ∧ z1 < 256) (k2 : 0 ≤ z2 ∧ z2 < 256) (k3 : 0 ≤ z3 ∧ z3 < 256) (k4 : 0 ≤ z4 ∧ z4 < 256) (k5 : 0 ≤ z5 ∧ z5 < 256) (k6 : 0 ≤ z6 ∧ z6 < 256) (k7 : 0 ≤ z7 ∧ z7 < 256)
    (c0 : w.cell? ⟨bl, off, none⟩ = some (.int .u8 z0)) (c1 : w.cell? ⟨bl, off + 1, none⟩ = some (.int .u8 z1)) (c2 : w.cell? ⟨bl, off + 2, none⟩ = some (.int .u8 z2)) (c3 : w.cell? ⟨bl, off + 3, none⟩ = some (.int .u8 z3))
    (c4 : w.cell? ⟨bl, off + 4, none⟩ = some (.int .u8 z4)) (c5 : w.cell? ⟨bl, off + 5, none⟩ = some (.int .u8 z5)) (c6 : w.cell? ⟨bl, off + 6, none⟩ = some (.int .u8 z6)) (c7 : w.cell? ⟨bl, off + 7, none⟩ = some (.int .u8 z7)) :
    Calls Try.prog 14 #[.slice (some ⟨bl, off, none⟩) len cap] w fun e w' => e = .returned (.tuple #[.int .u64 (z0 + 256 * (z1 + 256 * (z2 + 256 * (z3 + 256 * (z4 + 256 * (z5 + 256 * (z6 + 256 * z7))))))), .int .i64 0]) ∧ w = w' := by
  unfold maxLen at hm
  have e0 : bits .or .u64 0 z0 = z0 := by simpa using orp 0 z0 0 (by decide) (by decide) k0.1 (by omega)
  have e1 := orp z0 z1 8 (by omega) (by omega) k1.1 (by omega)
  have e2 := orp (z0 + z1 * 2 ^ 8) z2 16 (by omega) (by omega) k2.1 (by omega)
  have e3 := orp (z0 + z1 * 2 ^ 8 + z2 * 2 ^ 16) z3 24 (by omega) (by omega) k3.1 (by omega)
  have e4 := orp (z0 + z1 * 2 ^ 8 + z2 * 2 ^ 16 + z3 * 2 ^ 24) z4 32 (by omega) (by omega) k4.1 (by omega)
  have e5 := orp (z0 + z1 * 2 ^ 8 + z2 * 2 ^ 16 + z3 * 2 ^ 24 + z4 * 2 ^ 32) z5 40 (by omega) (by omega) k5.1 (by omega)
  have e6 := orp (z0 + z1 * 2 ^ 8 + z2 * 2 ^ 16 + z3 * 2 ^ 24 + z4 * 2 ^ 32 + z5 * 2 ^ 40) z6 48 (by omega) (by omega) k6.1 (by omega)
  have e7 := orp (z0 + z1 * 2 ^ 8 + z2 * 2 ^ 16 + z3 * 2 ^ 24 + z4 * 2 ^ 32 + z5 * 2 ^ 40 + z6 * 2 ^ 48) z7 56 (by omega) (by omega) k7.1 (by omega)
  simp only [Int.reducePow] at e1 e2 e3 e4 e5 e6 e7
  have E0 := Lib.hid e0; have E1 := Lib.hid e1; have E2 := Lib.hid e2; have E3 := Lib.hid e3; have E4 := Lib.hid e4; have E5 := Lib.hid e5; have E6 := Lib.hid e6; have E7 := Lib.hid e7
  clear e0 e1 e2 e3 e4 e5 e6 e7
  go_enter Try.func14, Try.ntmps14
  go_wp2
  go_rounds 9
  go_ret2
  refine ⟨?_, rfl⟩
  simp
  rw [E0.out, E1.out, E2.out, E3.out, E4.out, E5.out, E6.out, E7.out]; omega

set_option maxHeartbeats 400000 in
theorem load_short (a : Option Addr) (len cap : Nat) (w : World) (hl : len < 8) :
    Calls Try.prog 14 #[.slice a len cap] w fun e w' => e = .returned (.tuple #[.int .u64 0, .int .i64 4]) ∧ w = w' := by
  go_enter Try.func14, Try.ntmps14
  go_wp2
  go_ret2
  exact ⟨rfl, rfl⟩
set_option maxHeartbeats 400000 in
theorem rload_short (a : Option Addr) (len cap : Nat) (w : World) (hl : len < 8) :
    Calls Try.prog 15 #[.slice a len cap] w fun e w' => e = .returned (.tuple #[.int .u64 0, .int .i64 4]) ∧ w = w' := by
  go_enter Try.func15, Try.ntmps15
  go_wp2
  go_ret2
  exact ⟨rfl, rfl⟩

set_option maxHeartbeats 1000000 in
theorem rload_any (bl off len cap : Nat) (z0 z1 z2 z3 z4 z5 z6 z7 : Int) (w : World) (hl : 8 ≤ len)
    (k0 : 0 ≤ z0 ∧ z0 < 256) (k1 : 0 ≤ z1 ∧ z1 < 256) (k2 : 0 ≤ z2 ∧ z2 < 256) (k3 : 0 ≤ z3 ∧ z3 < 256) (k4 : 0 ≤ z4 ∧ z4 < 256) (k5 : 0 ≤ z5 ∧ z5 < 256) (k6 : 0 ≤ z6 ∧ z6 < 256) (k7 : 0 ≤ z7 ∧ z7 < 256)
    (c0 : w.cell? ⟨bl, off, none⟩ = some (.int .u8 z0)) (c1 : w.cell? ⟨bl, off + 1, none⟩ = some (.int .u8 z1)) (c2 : w.cell? ⟨bl, off + 2, none⟩ = some (.int .u8 z2)) (c3 : w.cell? ⟨bl, off + 3, none⟩ = some (.int .u8 z3))
    (c4 : w.cell? ⟨bl, off + 4, none⟩ = some (.int .u8 z4)) (c5 : w.cell? ⟨bl, off + 5, none⟩ = some (.int .u8 z5)) (c6 : w.cell? ⟨bl, off + 6, none⟩ = some (.int .u8 z6)) (c7 : w.cell? ⟨bl, off + 7, none⟩ = some (.int .u8 z7)) (hb : bl < w.heap.size) :
    Calls Try.prog 15 #[.slice (some ⟨bl, off, none⟩) len cap] w fun e w' => e = .returned (.tuple #[.int .u64 (z0 + 256 * (z1 + 256 * (z2 + 256 * (z3 + 256 * (z4 + 256 * (z5 + 256 * (z6 + 256 * z7))))))), .int .i64 0]) ∧ Below w.heap.size w w' := by
  go_enter Try.func15, Try.ntmps15
  go_wp2
  refine wp_loop_rounds 9 ?_
  repeat any_goals (rw [rounds_succ]; go_wp2_with fail)
  refine (of_any z0 z1 z2 z3 z4 z5 z6 z7 k0 k1 k2 k3 k4 k5 k6 k7 _).mono ?_
  rintro e w1 ⟨rfl, b1⟩
  go_wp2_with fail
  go_ret2
  exact ⟨rfl, tr (by go_grown) b1⟩

/-! ### lists of lanes -/
def lstP (p : Nat → Bool) (k : Nat) : List Int := ((List.range k).filter p).map Int.ofNat
theorem lstP_hit (p : Nat → Bool) (k : Nat) (h : p k = true) : lstP p (k + 1) = lstP p k ++ [(k : Int)] := by
  unfold lstP; rw [List.range_succ, List.filter_append]; simp [h]
theorem lstP_miss (p : Nat → Bool) (k : Nat) (h : p k = false) : lstP p (k + 1) = lstP p k := by
  unfold lstP; rw [List.range_succ, List.filter_append]; simp [h]
theorem lstP_len (p : Nat → Bool) (k : Nat) : (lstP p k).length ≤ k := by
  unfold lstP; rw [List.length_map]; exact Nat.le_trans (List.length_filter_le _ _) (by simp)
theorem lstP_mem (p : Nat → Bool) (k : Nat) (i : Int) (h : i ∈ lstP p k) : 0 ≤ i ∧ i < k := by
  unfold lstP at h
  rw [List.mem_map] at h
  obtain ⟨a, ha, rfl⟩ := h
  rw [List.mem_filter, List.mem_range] at ha
  exact ⟨Int.natCast_nonneg _, Int.ofNat_lt.2 ha.1⟩
def lst (s k : Nat) : List Int := lstP (fun i => s / 2 ^ i % 2 == 1) k
theorem lst_hit (s k : Nat) (h : s / 2 ^ k % 2 = 1) : lst s (k + 1) = lst s k ++ [(k : Int)] := lstP_hit _ k (by simp [h])
theorem lst_miss (s k : Nat) (h : ¬ s / 2 ^ k % 2 = 1) : lst s (k + 1) = lst s k := lstP_miss _ k (by simp [h])
theorem lst_len (s k : Nat) : (lst s k).length ≤ k := lstP_len _ k
theorem halves (s k : Nat) : s / 2 ^ k / 2 = s / 2 ^ (k + 1) := by rw [Nat.div_div_eq_div_mul, Nat.pow_succ]
theorem info_int : (Try.prog.info? 3).map (fun i => (i.zero, i.size, i.bytes)) = some (some (.int .i64 0), 1, 8) := by kernel_rfl

set_option maxHeartbeats 1000000 in
theorem rlanes_any (s : Nat) (hs : s < 256) (w : World) :
    Calls Try.prog 27 #[.int .u8 s] w fun e w' => ∃ v, e = .returned v ∧ w'.ownsRow w.heap.size 3 1 v (lst s 8).length ((lst s 8).map (Value.int .i64)) ∧ Below w.heap.size w w' := by
  obtain ⟨i0, hi, hz0, hz1, hz2⟩ := info_parts info_int
  go_enter Try.func27, Try.ntmps27
  go_wp2
  go_loopw [0, 3, 4] (fun q v i wr => ∃ k : Nat, k ≤ 8 ∧ i = .int .i64 k ∧ q = .int .u8 ((s / 2 ^ k : Nat) : Int) ∧ wr.ownsRow w.heap.size 3 1 v (lst s k).length ((lst s k).map (Value.int .i64)) ∧ Below w.heap.size w wr)
    (fun _ _ i _ => 8 - (intOf i).toNat)
  case atStart => exact ⟨0, by omega, rfl, by simp, World.ownsRow_nil _ _ _ _, Below.refl _ _⟩
  case round =>
    obtain ⟨k, hk, rfl, rfl, hown, hbel⟩ := hrel
    have hq : s / 2 ^ k < 256 := Nat.lt_of_le_of_lt (Nat.div_le_self _ _) hs
    have HL := Lib.hid (halves s k)
    by_cases hlt : k < 8
    · by_cases h1 : s / 2 ^ k % 2 = 1
      · have HH := Lib.hid (lst_hit s k h1)
        have hll := lst_len s k
        generalize s / 2 ^ k = m at *
        have h2 : ((m : Int) % 2 == 1) = true := by simp; omega
        go_wp2_with (at_builtin; go_loud (refine wpList_app1 rfl (.tmp 12) (.tmp 14) 44 rfl w.heap.size 3 i0 (.int .i64 0) 8 Try.underlying44 hi hz0 hz1 hz2 rfl _ _ _ (.int .i64 k) rfl hown rfl rfl ?_ ?_ hbel.size ?_))
        · omega
        · omega
        · intro v1 w1 hown1 hb1 _
          go_wp2
          go_roundw
          case rel => exact ⟨k + 1, by omega, by go_num, by rw [← HL.out]; simp, by rw [HH.out, List.map_append, List.length_append]; exact hown1, hbel.trans hb1⟩
          case measure => simp [intOf]; omega
      · have HH := Lib.hid (lst_miss s k h1)
        generalize s / 2 ^ k = m at *
        have h2 : ((m : Int) % 2 == 1) = false := by simp; omega
        go_wp2
        go_roundw
        case rel => exact ⟨k + 1, by omega, by go_num, by rw [← HL.out]; simp, by rw [HH.out]; exact hown, hbel⟩
        case measure => simp [intOf]; omega
    · obtain rfl : k = 8 := by omega
      go_wp2
      go_ret
      exact ⟨_, rfl, hown, hbel⟩

/-! ### the set of a list of lanes -/
def setL (l : List Int) : Int := l.foldl (fun s i => bits .or .u8 s (2 ^ i.toNat % 256)) 0
theorem setL_snoc (l : List Int) (i : Int) : setL (l ++ [i]) = bits .or .u8 (setL l) (2 ^ i.toNat % 256) := by
  unfold setL; rw [List.foldl_append]; rfl

set_option maxHeartbeats 1000000 in
theorem rset_any (g : Nat) (l : List Int) (cap : Nat) (w : World) (hl : l.length ≤ 8) (hi : ∀ i ∈ l, 0 ≤ i ∧ i < 8)
    (hc : ∀ j, j < l.length → w.cell? ⟨g, j, none⟩ = some (.int .i64 (l.getD j 0))) :
    Calls Try.prog 44 #[.slice (some ⟨g, 0, none⟩) l.length cap] w fun e w' => e = .returned (.int .u8 (setL l)) ∧ w = w' := by
  go_enter Try.func44, Try.ntmps44
  go_wp2
  go_loop [3, 4] (fun s i => ∃ k : Nat, k ≤ l.length ∧ i = .int .i64 k ∧ s = .int .u8 (setL (l.take k))) (fun _ i => l.length - (intOf i).toNat)
  case atStart => exact ⟨0, by omega, rfl, rfl⟩
  case round =>
    obtain ⟨k, hk, rfl, rfl⟩ := hrel
    by_cases hlt : k < l.length
    · have hx := hi l[k] (List.getElem_mem hlt)
      have hcx := hc k hlt
      rw [show l.getD k 0 = l[k] from by simp [hlt]] at hcx
      have HS := Lib.hid (setL_snoc (l.take k) l[k])
      have HT := Lib.hid (List.take_succ_eq_append_getElem hlt)
      generalize l[k] = x at *
      obtain ⟨x0, x1⟩ := hx
      clear hi hc
      go_wp2
      go_round
      case rel => exact ⟨k + 1, by omega, by go_num, by rw [HT.out, HS.out]⟩
      case measure => simp [intOf]; omega
    · go_wp2
      go_ret
      exact ⟨ret_int (by rw [List.take_of_length_le (by omega)]), rfl⟩

set_option maxHeartbeats 400000 in
theorem rset_nil (w : World) :
    Calls Try.prog 44 #[.slice none 0 0] w fun e w' => e = .returned (.int .u8 (setL [])) ∧ w = w' := by
  go_enter Try.func44, Try.ntmps44
  go_wp2
  go_rounds 1
  go_ret
  exact ⟨rfl, rfl⟩
theorem rset_own (base : Nat) (v : Value) (l : List Int) (w : World) (hl : l.length ≤ 8) (hi : ∀ i ∈ l, 0 ≤ i ∧ i < 8) (hown : w.ownsRow base 3 1 v l.length (l.map (Value.int .i64))) :
    Calls Try.prog 44 #[v] w fun e w' => e = .returned (.int .u8 (setL l)) ∧ w = w' := by
  rcases own_cases hown with ⟨rfl, rfl⟩ | ⟨g, cap, rfl, _, _, _, _, hc⟩
  · exact rset_nil w
  · exact rset_any g l cap w hl hi (fun j hj => by rw [hc j hj, show l.getD j 0 = l[j] from by simp [hj]])
theorem lstP_step (p : Nat → Bool) (k : Nat) : lstP p (k + 1) = lstP p k ++ (if p k then [(k : Int)] else []) := by
  cases h : p k
  · rw [lstP_miss p k h]; simp
  · rw [lstP_hit p k h]; simp
theorem setL_bits : ∀ b0 b1 b2 b3 b4 b5 b6 b7 : Bool,
    setL ([] ++ (if b0 then [0] else []) ++ (if b1 then [1] else []) ++ (if b2 then [2] else []) ++ (if b3 then [3] else []) ++ (if b4 then [4] else []) ++ (if b5 then [5] else []) ++ (if b6 then [6] else []) ++ (if b7 then [7] else [])) =
      ((WordM.bit b0 + 2 * (WordM.bit b1 + 2 * (WordM.bit b2 + 2 * (WordM.bit b3 + 2 * (WordM.bit b4 + 2 * (WordM.bit b5 + 2 * (WordM.bit b6 + 2 * WordM.bit b7)))))) : Nat) : Int) := by decide +kernel
theorem setL_lstP (p : Nat → Bool) : setL (lstP p 8) = setI p := by
  rw [lstP_step, lstP_step, lstP_step, lstP_step, lstP_step, lstP_step, lstP_step, lstP_step]
  exact setL_bits (p 0) (p 1) (p 2) (p 3) (p 4) (p 5) (p 6) (p 7)

set_option maxHeartbeats 2000000 in
theorem rmatch_any (x f t : Int) (h0 : 0 ≤ x) (h1 : x < 18446744073709551616) (w : World) :
    Calls Try.prog 25 #[.int .u64 x, .int .u8 f, .int .u8 t] w fun e w' => e = .returned (.int .u8 (setI (fun i => decide (f ≤ lane x i) && decide (lane x i ≤ t)))) ∧ Below w.heap.size w w' := by
  obtain ⟨i0, hi, hz0, hz1, hz2⟩ := info_parts info_int
  rw [← setL_lstP]
  generalize hp : (fun i => decide (f ≤ lane x i) && decide (lane x i ≤ t)) = p
  have HP := Lib.hid hp
  clear hp
  go_enter Try.func25, Try.ntmps25
  go_wp2
  go_loopw [7, 8] (fun v i wr => ∃ k : Nat, k ≤ 8 ∧ i = .int .i64 k ∧ wr.ownsRow w.heap.size 3 1 v (lstP p k).length ((lstP p k).map (Value.int .i64)) ∧ Below w.heap.size w wr)
    (fun _ i _ => 8 - (intOf i).toNat)
  case atStart => exact ⟨0, by omega, rfl, World.ownsRow_nil _ _ _ _, Below.refl _ _⟩
  case round =>
    obtain ⟨k, hk, rfl, hown, hbel⟩ := hrel
    by_cases hlt : k < 8
    · have hll := lstP_len p k
      by_cases ha : f ≤ lane x k
      · have ha2 : decide (f ≤ lane x k) = true := by simpa using ha
        by_cases hb : lane x k ≤ t
        · have HH := Lib.hid (lstP_hit p k (by rw [← HP.out]; simp [ha, hb]))
          go_wp2_with (first
            | (go_at_call 23; refine (rlane_any x k h0 h1 (by omega) _).mono ?_; rintro e w' ⟨rfl, rfl⟩)
            | (at_builtin; refine wpList_app1 rfl (.tmp 25) (.tmp 27) 44 rfl w.heap.size 3 i0 (.int .i64 0) 8 Try.underlying44 hi hz0 hz1 hz2 rfl _ _ _ (.int .i64 k) rfl hown rfl rfl ?_ ?_ hbel.size ?_))
          · omega
          · omega
          · intro v1 w1 hown1 hb1 _
            go_wp2
            go_roundw
            case rel => exact ⟨k + 1, by omega, by go_num, by rw [HH.out, List.map_append, List.length_append]; exact hown1, hbel.trans hb1⟩
            case measure => simp [intOf]; omega
        · have HH := Lib.hid (lstP_miss p k (by rw [← HP.out]; simp; omega))
          go_wp2_with (go_at_call 23; refine (rlane_any x k h0 h1 (by omega) _).mono ?_; rintro e w' ⟨rfl, rfl⟩)
          go_roundw
          case rel => exact ⟨k + 1, by omega, by go_num, by rw [HH.out]; exact hown, hbel⟩
          case measure => simp [intOf]; omega
      · have HH := Lib.hid (lstP_miss p k (by rw [← HP.out]; simp; omega))
        go_wp2_with (go_at_call 23; refine (rlane_any x k h0 h1 (by omega) _).mono ?_; rintro e w' ⟨rfl, rfl⟩)
        go_roundw
        case rel => exact ⟨k + 1, by omega, by go_num, by rw [HH.out]; exact hown, hbel⟩
        case measure => simp [intOf]; omega
    · obtain rfl : k = 8 := by omega
      have hll := lstP_len p 8
      have hlm := lstP_mem p 8
      generalize hL : lstP p 8 = l at *
      have HL := Lib.hid hL.symm
      clear hL
      go_wp2_with fail
      refine (rset_own _ _ l _ hll hlm hown).mono ?_
      rintro e w1 ⟨rfl, rfl⟩
      go_wp2_with fail
      go_ret
      exact ⟨ret_int (by rw [HL.out]), hbel⟩

/-! ### library functions on a byte, and the iterator -/
set_option maxHeartbeats 400000 in
theorem first_any (s : Nat) (hs : s < 256) (w : World) :
    Calls Try.prog 29 #[.int .u8 s] w fun e w' => e = .returned (.int .i64 (Lib.trailingZeros8 s)) ∧ w = w' := by
  go_enter Try.func29, Try.ntmps29
  go_wp2_with fail
  refine (Try.bits_TrailingZeros8 s _ (by omega) (by omega)).mono ?_
  rintro e w' ⟨rfl, rfl⟩
  go_wp2_with fail
  go_ret
  exact ⟨by simp, rfl⟩
set_option maxHeartbeats 400000 in
theorem count_any (s : Nat) (hs : s < 256) (w : World) :
    Calls Try.prog 30 #[.int .u8 s] w fun e w' => e = .returned (.int .i64 (Lib.onesCount s)) ∧ w = w' := by
  go_enter Try.func30, Try.ntmps30
  go_wp2_with fail
  refine (Try.bits_OnesCount8 s _ (by omega) (by omega)).mono ?_
  rintro e w' ⟨rfl, rfl⟩
  go_wp2_with fail
  go_ret
  exact ⟨by simp, rfl⟩
theorem lst_zero : lst 0 8 = [] := by decide +kernel
theorem lst_cons : ∀ m : Nat, m < 256 → m ≠ 0 → lst m 8 = (Lib.trailingZeros8 m : Int) :: lst (m &&& (m - 1)) 8 := by decide +kernel
theorem and_less : ∀ m : Nat, m < 256 → m ≠ 0 → m &&& (m - 1) < m := by decide +kernel
theorem and_bits : ∀ m : Nat, m < 256 → m ≠ 0 → bits .and .u8 (m : Int) ((m : Int) - 1) = ((m &&& (m - 1) : Nat) : Int) := by decide +kernel

set_option maxHeartbeats 400000 in
theorem all_any (s : Nat) (w : World) :
    Calls Try.prog 28 #[.int .u8 s] w fun e w' => e = .returned (.func (.func 45) #[] #[.pointer (some ⟨w.heap.size, 0, none⟩)]) ∧ w' = w.alloc (.cells #[.int .u8 s] 5) := by
  go_enter Try.func28, Try.ntmps28
  go_wp2
  go_ret
  exact ⟨rfl, rfl⟩

attribute [local go_sem] Oper.semAt_some
set_option maxHeartbeats 1000000 in
/-- the iterator gives the lanes of its set, upwards -/
theorem all1_in (Kp : World → World → Prop) (l B s : Nat) (hs : s < 256) (J Jx : List Int → World → Prop)
    (hY : ∀ pre x W, J pre W → pre.length < 8 → YieldAt Fence.wide 4 Try.prog l #[.int .i64 x] W fun e W' =>
      (e = .returned (.bool true) ∧ J (pre ++ [x]) W' ∧ Kp W W') ∨ (e = .returned (.bool false) ∧ Jx (pre ++ [x]) W'))
    (W : World) (hB : W.cell? ⟨B, 0, none⟩ = some (.int .u8 s)) (h0 : J [] W) :
    CallsIn Fence.wide 5 Try.prog 45 #[.func (.yield l) #[] #[], .pointer (some ⟨B, 0, none⟩)] W fun e W' => (∃ v, e = .returned v) ∧
      ((∃ xs, xs = lst s 8 ∧ J xs W') ∨ (∃ pre, pre <+: lst s 8 ∧ Jx pre W')) := by
  have hlen := lst_len s 8
  refine callsIn_of_wp Try.func45 rfl trivial ?_ rfl
  simp only [Try.ntmps45, List.size_toArray, List.length_cons, List.length_nil, Nat.reduceAdd, Nat.reduceSub, Array.replicate_succ, Array.replicate_zero, List.push_toArray, List.append_toArray, List.nil_append, List.cons_append]
  gi_wp2
  gi_loopw [3] (fun p wr => ∃ (pre : List Int) (m : Nat), p = .int .u8 m ∧ m < 256 ∧ lst s 8 = pre ++ lst m 8 ∧ J pre wr) (fun p _ => (intOf p).toNat)
  case atStart => exact ⟨[], s, rfl, hs, rfl, h0⟩
  case round =>
    obtain ⟨pre, m, rfl, hm, hx, hJs⟩ := hrel
    by_cases hz : m = 0
    · subst hz
      gi_wp2
      go_end0
      exact ⟨⟨_, rfl⟩, .inl ⟨pre, by rw [hx, lst_zero]; simp, hJs⟩⟩
    · have hne : ((m : Int) != 0) = true := by simp; exact hz
      have HC := Lib.hid (lst_cons m hm hz)
      have HA := Lib.hid (and_bits m hm hz)
      have HL := Lib.hid (and_less m hm hz)
      have hm1 : 1 ≤ m := by omega
      obtain ⟨fn, tmps, assign, body, hy, hR⟩ := hY pre (Lib.trailingZeros8 m : Int) wr hJs (by rw [hx, lst_cons m hm hz] at hlen; simp at hlen; omega)
      gi_wp2_with (refine ⟨trivial, ?_⟩; gi_at_call 29; refine (callsIn_wide.2 (first_any m hm _)).mono ?_; rintro e w' ⟨rfl, rfl⟩)
      refine hR.mono ?_
      rintro e W3 (⟨rfl, hJ3, hk3⟩ | ⟨rfl, hJx3⟩)
      · gi_wp2
        go_roundw
        case rel => exact ⟨pre ++ [(Lib.trailingZeros8 m : Int)], m &&& (m - 1), by rw [HA.out], by have := HL.out; omega, by rw [hx, HC.out]; simp, hJ3⟩
        case measure => rw [HA.out]; have := HL.out; simp [intOf]; exact this
      · gi_wp2
        refine bodyPost_ret (results_none rfl _ _ _) rfl ?_
        exact ⟨⟨_, rfl⟩, .inr ⟨pre ++ [(Lib.trailingZeros8 m : Int)], ⟨lst (m &&& (m - 1)) 8, by rw [hx, HC.out]; simp⟩, hJx3⟩⟩
end Go.Proofs.Ytgghlecpdgjnlaa.Word
