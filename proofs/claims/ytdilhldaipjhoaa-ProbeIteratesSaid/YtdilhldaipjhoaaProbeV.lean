/-
  Walks over the reference of layer 6 (probe): All, Same, Index.
-/
import Derived.Test.YtdilhldaipjhoaaProbeW
import Derived.Maps.AppendAt
namespace Go.Proofs.Ytdilhldaipjhoaa.Probe
open Go.RowKit Kit GrowM Grow

/-- the first n elements of a sequence -/
def seqI (p g : Int) (n : Nat) : List Int := (List.range n).map fun (i : Nat) => atI p g (i : Int)
theorem seqI_len (p g : Int) (n : Nat) : (seqI p g n).length = n := by simp [seqI]
theorem seqI_succ (p g : Int) (n : Nat) : seqI p g (n + 1) = seqI p g n ++ [atI p g (n : Int)] := by simp [seqI, List.range_succ]
theorem seqI_get (p g : Int) (n j : Nat) (h : j < (seqI p g n).length) : (seqI p g n)[j] = atI p g (j : Int) := by simp [seqI]
/-- what stands in 'at' ahead of round k -/
def preI (p g k : Int) : Int := (p + k * (k - 1) / 2) % g
theorem preI_zero (p g : Int) : preI p g 0 = p % g := by simp [preI]
theorem preI_succ (p g k : Int) : preI p g (k + 1) = atI p g k := by
  unfold preI atI
  rw [show k + 1 - 1 = k by omega, Int.mul_comm]
theorem preI_step (p g k : Int) : (preI p g k + k) % g = atI p g k := by
  unfold preI atI
  rw [Int.emod_add_emod]
  have : k * (k + 1) = k * (k - 1) + 2 * k := by rw [Int.mul_add, Int.mul_sub]; omega
  congr 1
  omega
theorem preI_range (p g k : Int) (hg : 1 ≤ g) : 0 ≤ preI p g k ∧ preI p g k < g := ⟨Int.emod_nonneg _ (by omega), Int.emod_lt_of_pos _ (by omega)⟩

theorem info_parts {t : TypeId} {k : Nat} (h : (Try.prog.info? t).map (fun i => (i.size, i.bytes, i.zero)) = some (1, k, some (.int .i64 0))) : ∃ i, Try.prog.info? t = some i ∧ i.zero = some (.int .i64 0) ∧ i.size = 1 ∧ i.bytes = k := by
  cases hi : Try.prog.info? t with
  | none => rw [hi] at h; simp at h
  | some i => rw [hi] at h; simp at h; exact ⟨i, rfl, h.2.2, h.1, h.2.1⟩
theorem info_int : (Try.prog.info? 3).map (fun i => (i.size, i.bytes, i.zero)) = some (1, 8, some (.int .i64 0)) := by kernel_rfl

theorem rAll_bad (p g : Int) (hg : pow2 g = false) (w : World) :
    Calls Try.prog 19 #[.int .u64 p, .int .i64 g] w fun e w' => e = .returned (.slice none 0 0) ∧ Below w.heap.size w w' := by
  go_enter Try.func19, Try.ntmps19
  go_wp2_with fail
  refine (rvalid_any g _).mono ?_
  rintro e w1 ⟨rfl, rfl⟩
  rw [hg]
  go_wp2_with fail
  go_ret
  exact ⟨rfl, Below.refl _ _⟩
set_option maxHeartbeats 2000000 in
theorem rAll_ok (p : Int) (g : Nat) (hg : pow2 (g : Int) = true) (p0 : 0 ≤ p) (p1 : p ≤ 18446744073709551615) (w : World) :
    Calls Try.prog 19 #[.int .u64 p, .int .i64 (g : Int)] w fun e w' => ∃ v, e = .returned v ∧ w'.ownsRow w.heap.size 3 1 v g ((seqI p g g).map (Value.int .i64)) ∧ Below w.heap.size w w' := by
  obtain ⟨i0, hi, hz0, hz1, hz2⟩ := info_parts info_int
  obtain ⟨a1, a2⟩ := pow2_range _ hg
  have HG := Lib.hid hg
  have HW := Lib.hid (show wrap64 (p % (g : Int)) = p % (g : Int) from by
    have h1 := Int.emod_nonneg p (by omega : (g : Int) ≠ 0)
    have h2 := Int.emod_lt_of_pos p (by omega : 0 < (g : Int))
    unfold wrap64; omega)
  clear hg
  have HZ := Lib.hid (preI_zero p (g : Int))
  go_enter Try.func19, Try.ntmps19
  go_wp2_with fail
  refine (rvalid_any (g : Int) _).mono ?_
  rintro e w1 ⟨rfl, rfl⟩
  rw [HG.out]
  go_wp2_with fail
  go_loopw [5, 6, 7] (fun a v i wr => ∃ k : Nat, k ≤ g ∧ i = .int .i64 (k : Int) ∧ a = .int .i64 (preI p g k) ∧ wr.ownsRow w.heap.size 3 1 v k ((seqI p g k).map (Value.int .i64)) ∧ Below w.heap.size w wr) (fun _ _ i _ => g - (intOf i).toNat)
  case atStart => exact ⟨0, by omega, rfl, by rw [show preI p g ((0 : Nat) : Int) = p % g from HZ.out, HW.out], by simpa [seqI] using World.ownsRow_nil _ _ _ _, Below.refl _ _⟩
  case round =>
    obtain ⟨k, hk, rfl, rfl, hown, hbel⟩ := hrel
    by_cases hlt : k < g
    · have HP := Lib.hid (preI_step p (g : Int) k)
      have HS := Lib.hid (preI_succ p (g : Int) k)
      have HQ := Lib.hid (seqI_succ p (g : Int) k)
      obtain ⟨r0, r1⟩ := preI_range p (g : Int) k a1
      obtain ⟨s0, s1⟩ := atI_range p (g : Int) k a1
      generalize hA : preI p (g : Int) (k : Int) = A at *
      clear hA
      generalize hB : atI p (g : Int) (k : Int) = B at *
      clear hB
      go_wp2_with (at_builtin; refine wpList_app1 rfl (.tmp 26) (.tmp 28) 31 rfl w.heap.size 3 i0 (.int .i64 0) 8 Try.underlying31 hi hz0 hz1 hz2 rfl _ _ _ _ rfl hown rfl rfl ?_ ?_ hbel.size ?_)
      · omega
      · omega
      · intro v1 w1 hown1 hb1 _
        go_wp2
        go_roundw
        case rel => exact ⟨k + 1, by omega, by go_num, by rw [show preI p (g : Int) ((k + 1 : Nat) : Int) = B from HS.out, HP.out], by rw [HQ.out, List.map_append]; rw [HP.out] at hown1; exact hown1, hbel.trans hb1⟩
        case measure => simp [intOf]; omega
    · obtain rfl : k = g := by omega
      go_wp2
      go_ret
      exact ⟨_, rfl, hown, hbel⟩
end Go.Proofs.Ytdilhldaipjhoaa.Probe
