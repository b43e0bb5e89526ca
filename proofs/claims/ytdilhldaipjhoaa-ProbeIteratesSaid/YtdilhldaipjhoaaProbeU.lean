/-
  Walks over package probe (layer 6), the iterator: sequence, All.
-/
import Derived.Test.YtdilhldaipjhoaaProbeV
import Derived.Test.YtdilhldaipjhoaaProbeM
import Derived.RangeFuncNested
import Derived.RangeFuncBound
import Derived.RangeFuncCalls
import Derived.RangeFuncLeaves
import Derived.RangeFuncFrom
import Derived.OwnWalkIn
import Derived.TacticsInMore
import Derived.LoopNIn
import Derived.LoopIn
namespace Go.Proofs.Ytdilhldaipjhoaa.Probe
open Go.RowKit Kit GrowM Grow

theorem seqI_prefix (p : Int) (g m n : Nat) (h : m ≤ n) : seqI p g m <+: seqI p g n := by
  induction n with
  | zero => obtain rfl : m = 0 := by omega
            exact List.prefix_refl _
  | succ n ih =>
    by_cases hm : m = n + 1
    · subst hm; exact List.prefix_refl _
    · rw [seqI_succ]
      exact (ih (by omega)).trans (List.prefix_append _ _)
/-- the world behind sequence: the group part and the number of groups lie in blocks of their own -/
def seqW (w : World) (p g : Int) : World := (w.alloc (.cells #[.int .u64 p] 22)).alloc (.cells #[.int .i64 g] 3)
def seqF (w : World) : Value := .func (.func 49) #[] #[.pointer (some ⟨w.heap.size + 1, 0, none⟩), .pointer (some ⟨w.heap.size, 0, none⟩)]
theorem sequence_any (p g : Int) (w : World) :
    Calls Try.prog 39 #[.int .u64 p, .int .i64 g] w fun e w' => e = .returned (seqF w) ∧ w' = seqW w p g := by
  go_enter Try.func39, Try.ntmps39
  go_wp2
  go_ret
  exact ⟨by simp [seqF], rfl⟩
theorem All_ok (p g : Int) (hg : pow2 g = true) (w : World) :
    Calls Try.prog 22 #[.int .u64 p, .int .i64 g] w fun e w' => e = .returned (.tuple #[seqF w, .int .i64 0]) ∧ w' = seqW w p g := by
  go_enter Try.func22, Try.ntmps22
  go_wp2_with fail
  refine (valid_any g _).mono ?_
  rintro e w1 ⟨rfl, rfl⟩
  rw [hg]
  go_wp2_with fail
  refine (sequence_any p g _).mono ?_
  rintro e w1 ⟨rfl, rfl⟩
  go_wp2_with fail
  go_ret2
  exact ⟨rfl, rfl⟩
theorem All_bad (p g : Int) (hg : pow2 g = false) (w : World) :
    Calls Try.prog 22 #[.int .u64 p, .int .i64 g] w fun e w' => e = .returned (.tuple #[.func (.func 38) #[] #[], .int .i64 2]) ∧ w = w' := by
  go_enter Try.func22, Try.ntmps22
  go_wp2_with fail
  refine (valid_any g _).mono ?_
  rintro e w1 ⟨rfl, rfl⟩
  rw [hg]
  go_wp2_with fail
  go_ret2
  exact ⟨rfl, rfl⟩
attribute [local go_sem] Oper.semAt_some
set_option maxHeartbeats 1000000 in
/-- the iterator gives the groups in the order of the sequence -/
theorem seq1_in (Kp : World → World → Prop) (l B G : Nat) (p : Int) (g : Nat) (hg : pow2 (g : Int) = true) (J Jx : List Int → World → Prop)
    (hK : ∀ W W', Kp W W' → W'.cell? ⟨B, 0, none⟩ = W.cell? ⟨B, 0, none⟩ ∧ W'.cell? ⟨G, 0, none⟩ = W.cell? ⟨G, 0, none⟩)
    (hY : ∀ pre x W, J pre W → pre.length < g → YieldAt Fence.wide 4 Try.prog l #[.int .i64 x] W fun e W' =>
      (e = .returned (.bool true) ∧ J (pre ++ [x]) W' ∧ Kp W W') ∨ (e = .returned (.bool false) ∧ Jx (pre ++ [x]) W'))
    (W : World) (cB : W.cell? ⟨B, 0, none⟩ = some (.int .u64 p)) (cG : W.cell? ⟨G, 0, none⟩ = some (.int .i64 (g : Int))) (h0 : J [] W) :
    CallsIn Fence.wide 5 Try.prog 49 #[.func (.yield l) #[] #[], .pointer (some ⟨G, 0, none⟩), .pointer (some ⟨B, 0, none⟩)] W fun e W' => (∃ v, e = .returned v) ∧
      ((∃ xs, xs = seqI p g g ∧ J xs W') ∨ (∃ pre, pre <+: seqI p g g ∧ Jx pre W')) := by
  obtain ⟨a1, a2⟩ := pow2_range _ hg
  have HG := Lib.hid hg
  have HK := Lib.hid hK
  have HY := Lib.hid hY
  clear hK hY hg
  refine callsIn_of_wp Try.func49 rfl trivial ?_ rfl
  simp only [Try.ntmps49, List.size_toArray, List.length_cons, List.length_nil, Nat.reduceAdd, Nat.reduceSub, Array.replicate_succ, Array.replicate_zero, List.push_toArray, List.append_toArray, List.nil_append, List.cons_append]
  gi_wp2
  gi_loopw [6] (fun i wr => ∃ k : Nat, k ≤ g ∧ i = .int .i64 (k : Int) ∧ J (seqI p g k) wr ∧ wr.cell? ⟨B, 0, none⟩ = some (.int .u64 p) ∧ wr.cell? ⟨G, 0, none⟩ = some (.int .i64 (g : Int))) (fun i _ => g - (intOf i).toNat)
  case atStart => exact ⟨0, by omega, rfl, by simpa [seqI] using h0, cB, cG⟩
  case round =>
    obtain ⟨k, hk, rfl, hJs, dB, dG⟩ := hrel
    clear cB cG
    by_cases hlt : k < g
    · have HE := Lib.hid (element_any p (g : Int) (k : Int) a1 a2 (by omega) (by omega) HG.out)
      obtain ⟨fn, tmps, assign, body, hy, hR⟩ := HY.out (seqI p g k) (atI p g (k : Int)) wr hJs (by rw [seqI_len]; exact hlt)
      gi_wp2_with (refine ⟨trivial, ?_⟩; gi_at_call 41; refine (callsIn_wide.2 (HE.out _)).mono ?_; rintro e w' ⟨rfl, rfl⟩)
      refine hR.mono ?_
      rintro e W3 (⟨rfl, hJ3, hk3⟩ | ⟨rfl, hJx3⟩)
      · gi_wp2
        go_roundw
        case rel => exact ⟨k + 1, by omega, by go_num, by rw [seqI_succ]; exact hJ3, (HK.out _ _ hk3).1.trans dB, (HK.out _ _ hk3).2.trans dG⟩
        case measure => simp [intOf]; omega
      · gi_wp2
        refine bodyPost_ret (results_none rfl _ _ _) rfl ?_
        refine ⟨⟨_, rfl⟩, .inr ⟨seqI p g k ++ [atI p g (k : Int)], ?_, hJx3⟩⟩
        rw [← seqI_succ]
        exact seqI_prefix p g (k + 1) g hlt
    · obtain rfl : k = g := by omega
      gi_wp2
      go_end0
      exact ⟨⟨_, rfl⟩, .inl ⟨_, rfl, hJs⟩⟩
set_option maxHeartbeats 400000 in
theorem same_true (g g2 cap cap2 : Nat) (l : List Int) (w : World) (hl : l.length ≤ 2000000) (hg : g < w.heap.size) (hg2 : g2 < w.heap.size)
    (hc : ∀ j (hj : j < l.length), w.cell? ⟨g, j, none⟩ = some (.int .i64 l[j])) (hc2 : ∀ j (hj : j < l.length), w.cell? ⟨g2, j, none⟩ = some (.int .i64 l[j])) :
    Calls Try.prog 36 #[.slice (some ⟨g, 0, none⟩) l.length cap, .slice (some ⟨g2, 0, none⟩) l.length cap2] w fun e w' => e = .returned (.bool true) ∧ Below w.heap.size w w' := by
  go_enter Try.func36, Try.ntmps36
  go_wp2
  go_loopw [5] (fun i wr => ∃ k : Nat, k ≤ l.length ∧ i = .int .i64 k ∧ Below w.heap.size w wr) (fun i _ => l.length - (intOf i).toNat)
  case atStart => exact ⟨0, by omega, rfl, Below.refl _ _⟩
  case round =>
    obtain ⟨k, hk, rfl, hb⟩ := hrel
    by_cases hlt : k < l.length
    · have h1 := (hb.cell (p := ⟨g, k, none⟩) hg).trans (hc k hlt)
      have h2 := (hb.cell (p := ⟨g2, k, none⟩) hg2).trans (hc2 k hlt)
      generalize l[k] = x at *
      clear hc hc2
      have hk0 : (0 : Int) ≤ (k : Int) := Int.natCast_nonneg _
      have hk1 : (k : Int) < (l.length : Int) := by omega
      go_wp2
      go_quiet (fail)
      go_wp2
      go_roundw
      case rel => exact ⟨k + 1, by omega, by go_num, below_drewN hb _⟩
      case measure => simp [intOf]; omega
    · go_wp2
      go_ret
      exact ⟨rfl, hb⟩
end Go.Proofs.Ytdilhldaipjhoaa.Probe
