/-
  Walks over the laws of layer 6 (probe): ProbeAt, ProbeAll, ProbeIndex.
-/
import Derived.Test.YtdilhldaipjhoaaProbeJ
namespace Go.Proofs.Ytdilhldaipjhoaa.Probe
open Go.RowKit Kit GrowM Grow Go.Shelf

theorem lawAt_any (p g i : Int) (p0 : 0 ≤ p) (p1 : p ≤ 18446744073709551615) (w : World) :
    Calls Try.prog 3 #[.int .u64 p, .int .i64 g, .int .i64 i] w fun e w' => e = .returned (.bool true) ∧ Below w.heap.size w w' := by
  obtain ⟨n, c, H1, H2, c0, c3⟩ := at_both p g i p0 p1
  have HR := Lib.hid H2
  have HA := Lib.hid (at_true p g i n c H1)
  clear H1 H2
  go_enter Try.func3, Try.ntmps3
  go_wp2_with fail
  refine (HR.out _).mono ?_
  rintro e w1 ⟨rfl, b1⟩
  go_wp2_with fail
  refine (valid_any g _).mono ?_
  rintro e w2 ⟨rfl, rfl⟩
  go_wp2_with fail
  refine (rvalid_any g _).mono ?_
  rintro e w2 ⟨rfl, rfl⟩
  go_wp2_with fail
  refine (HA.out _).mono ?_
  rintro e w2 ⟨rfl, rfl⟩
  go_wp2_with fail
  refine (known_any _).mono ?_
  rintro e w3 ⟨rfl, b3⟩
  go_wp2_with fail
  go_ret
  exact ⟨rfl, tr b1 b3⟩
theorem lawIndex_any (p g t : Int) (p0 : 0 ≤ p) (p1 : p ≤ 18446744073709551615) (w : World) :
    Calls Try.prog 5 #[.int .u64 p, .int .i64 g, .int .i64 t] w fun e w' => e = .returned (.bool true) ∧ Below w.heap.size w w' := by
  obtain ⟨n, c, H1, H2, c0, c3⟩ := index_both p g t p0 p1
  have HR := Lib.hid H2
  have HA := Lib.hid (index_true p g t n c H1)
  clear H1 H2
  by_cases hs : 4096 < g ∧ pow2 g = true
  · obtain ⟨h1, h2⟩ := hs
    have HG := Lib.hid h2
    clear h2
    go_enter Try.func5, Try.ntmps5
    go_wp2_with fail
    refine (rvalid_any g _).mono ?_
    rintro e w1 ⟨rfl, rfl⟩
    rw [HG.out]
    go_wp2_with fail
    refine (known_any _).mono ?_
    rintro e w3 ⟨rfl, b3⟩
    go_wp2_with fail
    go_ret
    exact ⟨rfl, b3⟩
  · by_cases h1 : 4096 < g
    · have HG := Lib.hid (show pow2 g = false by simpa [h1] using hs)
      clear hs
      go_enter Try.func5, Try.ntmps5
      go_wp2_with fail
      refine (rvalid_any g _).mono ?_
      rintro e w1 ⟨rfl, rfl⟩
      rw [HG.out]
      go_wp2_with fail
      refine (HR.out _).mono ?_
      rintro e w1 ⟨rfl, b1⟩
      go_wp2_with fail
      refine (HA.out _).mono ?_
      rintro e w2 ⟨rfl, b2⟩
      go_wp2_with fail
      refine (known_any _).mono ?_
      rintro e w3 ⟨rfl, b3⟩
      go_wp2_with fail
      go_ret
      exact ⟨rfl, tr (tr b1 b2) b3⟩
    · clear hs
      go_enter Try.func5, Try.ntmps5
      go_wp2_with fail
      refine (HR.out _).mono ?_
      rintro e w1 ⟨rfl, b1⟩
      go_wp2_with fail
      refine (HA.out _).mono ?_
      rintro e w2 ⟨rfl, b2⟩
      go_wp2_with fail
      refine (known_any _).mono ?_
      rintro e w3 ⟨rfl, b3⟩
      go_wp2_with fail
      go_ret
      exact ⟨rfl, tr (tr b1 b2) b3⟩
theorem lawAll_any (p g : Int) (p0 : 0 ≤ p) (p1 : p ≤ 18446744073709551615) (w : World) :
    Calls Try.prog 4 #[.int .u64 p, .int .i64 g] w fun e w' => e = .returned (.bool true) ∧ Below w.heap.size w w' := by
  cases hg : pow2 g
  · have HR := Lib.hid (rAll_bad p g hg)
    have HA := Lib.hid (lawall_bad p g hg)
    have HG := Lib.hid hg
    clear hg
    by_cases h1 : 4096 < g
    · go_enter Try.func4, Try.ntmps4
      go_wp2_with fail
      refine (rvalid_any g _).mono ?_
      rintro e w1 ⟨rfl, rfl⟩
      rw [HG.out]
      go_wp2_with fail
      refine (rvalid_any g _).mono ?_
      rintro e w1 ⟨rfl, rfl⟩
      rw [HG.out]
      go_wp2_with fail
      refine (HR.out _).mono ?_
      rintro e w1 ⟨rfl, b1⟩
      go_wp2_with fail
      refine (HA.out _).mono ?_
      rintro e w2 ⟨rfl, b2⟩
      go_wp2_with fail
      refine (known_any _).mono ?_
      rintro e w3 ⟨rfl, b3⟩
      go_wp2_with fail
      go_ret
      exact ⟨rfl, tr (tr b1 b2) b3⟩
    · go_enter Try.func4, Try.ntmps4
      go_wp2_with fail
      refine (rvalid_any g _).mono ?_
      rintro e w1 ⟨rfl, rfl⟩
      rw [HG.out]
      go_wp2_with fail
      refine (HR.out _).mono ?_
      rintro e w1 ⟨rfl, b1⟩
      go_wp2_with fail
      refine (HA.out _).mono ?_
      rintro e w2 ⟨rfl, b2⟩
      go_wp2_with fail
      refine (known_any _).mono ?_
      rintro e w3 ⟨rfl, b3⟩
      go_wp2_with fail
      go_ret
      exact ⟨rfl, tr (tr b1 b2) b3⟩
  · obtain ⟨a1, a2⟩ := pow2_range _ hg
    obtain ⟨gn, rfl⟩ := Int.eq_ofNat_of_zero_le (by omega : 0 ≤ g)
    have HR := Lib.hid (rAll_ok p gn hg p0 p1)
    have HA := Lib.hid (lawall_ok p gn hg)
    have HE := Lib.hid (seqI_ne p gn a1)
    have HG := Lib.hid hg
    clear hg
    by_cases h1 : 4096 < (gn : Int)
    · go_enter Try.func4, Try.ntmps4
      go_wp2_with fail
      refine (rvalid_any (gn : Int) _).mono ?_
      rintro e w1 ⟨rfl, rfl⟩
      rw [HG.out]
      go_wp2_with fail
      refine (known_any _).mono ?_
      rintro e w3 ⟨rfl, b3⟩
      go_wp2_with fail
      go_ret
      exact ⟨rfl, b3⟩
    · go_enter Try.func4, Try.ntmps4
      go_wp2_with fail
      refine (rvalid_any (gn : Int) _).mono ?_
      rintro e w1 ⟨rfl, rfl⟩
      rw [HG.out]
      go_wp2_with fail
      refine (HR.out _).mono ?_
      rintro e w1 ⟨v, rfl, hown, b1⟩
      have hoc := own_cases (l := seqI p gn gn) (f := Value.int .i64) (by rw [seqI_len]; exact hown)
      rcases hoc with ⟨_, hn⟩ | ⟨g', cap', rfl, hg1, hg2, _, _, hcs⟩
      · exact absurd hn HE.out
      have HC := Lib.hid hcs
      clear hown hcs
      rw [seqI_len]
      go_wp2_with fail
      refine (HA.out g' cap' w1 hg2 HC.out).mono ?_
      rintro e w2 ⟨rfl, b2⟩
      go_wp2_with fail
      refine (known_any _).mono ?_
      rintro e w3 ⟨rfl, b3⟩
      go_wp2_with fail
      go_ret
      exact ⟨rfl, tr (tr b1 b2) b3⟩
end Go.Proofs.Ytdilhldaipjhoaa.Probe
