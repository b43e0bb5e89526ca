/-
  Links (layer 14): LinksMany, the law.
-/
import Derived.Test.YtajkcockeccdoaaLnkN
set_option linter.unusedVariables false
set_option linter.unusedSimpArgs false
namespace Go.Proofs.Ytajkcockeccdoaa.Lnk
open Go Go.RowKit Kit
set_option maxRecDepth 100000 in
set_option maxHeartbeats 4000000 in
theorem lmany_any {less : Int} (h0 : 0 ≤ less) (h1 : less ≤ 255) (lists : Bool) {W : World} (hk : Kn W) :
    Calls Try.prog 6 #[.int .u8 less, .bool lists] W fun e w' => e = .returned (.bool true) ∧ Below W.heap.size W w' := by
  have HK := Lib.hid hk
  clear hk
  by_cases hless : 3 < less
  · go_enter Try.func6, Try.ntmps6
    go_wp2_with fail
    refine (HK.out _ (Below.refl _ _)).mono ?_
    rintro e w1 ⟨rfl, b1⟩
    have B1 := Lib.hid b1
    clear b1
    go_wp2_with fail
    go_ret
    exact ⟨rfl, B1.out⟩
  obtain ⟨L, rfl⟩ : ∃ L : Nat, less = (L : Int) := ⟨less.toNat, by omega⟩
  have wl := IntWalk.i64_in (L : Int) (by omega)
  have k2 : (0 == 2) = false := rfl
  cases lists
  · obtain ⟨N, hN⟩ : ∃ N : Nat, N = 4194304 - L := ⟨_, rfl⟩
    obtain ⟨M, hM⟩ : ∃ M : Nat, M = N - 1 := ⟨_, rfl⟩
    have wn : IntKind.i64.wrap (4194304 - (L : Int)) = (N : Int) := by rw [IntWalk.i64_in _ (by omega)]; omega
    have wm : IntKind.i64.wrap ((N : Int) - 1) = (M : Int) := by rw [IntWalk.i64_in _ (by omega)]; omega
    have wu : IntKind.u32.wrap (M : Int) = (M : Int) := by rw [IntWalk.u32_in _ (by omega)]
    have wa : IntKind.u32.wrap ((M : Int) + 1) = (N : Int) := by rw [IntWalk.u32_in _ (by omega)]; omega
    have HNEW := Lib.hid (mnew (N := N) (H := 1) (hm := 0) (nI := (N : Int)) (hI := 1) rfl rfl (by omega) (by omega) (by omega) (by omega) W)
    have HBA := Lib.hid (fun c v (h : Mq W v c N 1 0 []) => h.back (hI := 0) (nI := (M : Int)) (n := M) rfl rfl (by omega) (by simp))
    have HFR := Lib.hid (fun c v (h : Mq W v c N 1 0 [M]) => h.front (hI := 0) (nI := 0) (n := 0) rfl rfl (by omega) (by simp; omega))
    have HBH := Lib.hid (fun c v (h : Mq W v c N 1 0 [0, M]) => h.badH (hI := 1) (nI := 1) (by omega))
    have HBN := Lib.hid (fun c v (h : Mq W v c N 1 0 [0, M]) => h.badN (nI := (N : Int)) (by omega) (by omega))
    have HFI := Lib.hid (fun c v (h : Mq W v c N 1 0 [0, M]) => h.first (hI := 0) rfl)
    have HNX := Lib.hid (fun c v (h : Mq W v c N 1 0 [0, M]) => h.next (nI := 0) rfl)
    have HLE := Lib.hid (fun c v (h : Mq W v c N 1 0 [0, M]) => h.len (hI := 0) rfl)
    clear hN hM h0 h1
    go_enter Try.func6, Try.ntmps6
    go_wp2_with fail
    refine HNEW.out.mono ?_
    rintro e v1 ⟨c, rfl, m1⟩
    have M1 := Lib.hid m1
    clear m1
    go_wp2_with fail
    refine M1.out.nodes.mono ?_
    rintro e v2 ⟨rfl, rfl⟩
    go_wp2_with fail
    refine M1.out.heads.mono ?_
    rintro e v2 ⟨rfl, rfl⟩
    go_wp2_with fail
    refine (HBA.out _ _ M1.out).mono ?_
    rintro e v2 ⟨rfl, m2⟩
    have M2 := Lib.hid m2
    clear m2
    go_wp2_with fail
    refine (HFR.out _ _ M2.out).mono ?_
    rintro e v3 ⟨rfl, m3⟩
    have M3 := Lib.hid m3
    clear m3
    go_wp2_with fail
    refine (HBH.out _ _ M3.out).mono ?_
    rintro e v4 ⟨rfl, m4⟩
    have M4 := Lib.hid m4
    clear m4
    go_wp2_with fail
    refine (HBN.out _ _ M4.out).mono ?_
    rintro e v5 ⟨rfl, m5⟩
    have M5 := Lib.hid m5
    clear m5
    go_wp2_with fail
    refine (HFI.out _ _ M5.out).mono ?_
    rintro e v6 ⟨rfl, m6⟩
    have M6 := Lib.hid m6
    clear m6
    go_wp2_with fail
    refine (HNX.out _ _ M6.out).mono ?_
    rintro e v7 ⟨rfl, m7⟩
    have M7 := Lib.hid m7
    clear m7
    go_wp2_with fail
    refine (gives_any _ _ _ _ _).mono ?_
    rintro e v8 ⟨rfl, rfl⟩
    go_wp2_with fail
    refine (gives_any _ _ _ _ _).mono ?_
    rintro e v8 ⟨rfl, rfl⟩
    go_wp2_with fail
    refine (HLE.out _ _ M7.out).mono ?_
    rintro e v8 ⟨rfl, rfl⟩
    go_wp2_with fail
    refine (HK.out _ M7.out.b).mono ?_
    rintro e w1 ⟨rfl, b1⟩
    have B1 := Lib.hid (tr M7.out.b b1)
    clear b1
    go_wp2_with fail
    go_ret
    exact ⟨rfl, B1.out⟩
  · obtain ⟨H, hN⟩ : ∃ H : Nat, H = 4096 - L := ⟨_, rfl⟩
    obtain ⟨hm, hM⟩ : ∃ hm : Nat, hm = H - 1 := ⟨_, rfl⟩
    have wn : IntKind.i64.wrap (4096 - (L : Int)) = (H : Int) := by rw [IntWalk.i64_in _ (by omega)]; omega
    have wm : IntKind.i64.wrap ((H : Int) - 1) = (hm : Int) := by rw [IntWalk.i64_in _ (by omega)]; omega
    have HNEW := Lib.hid (mnew (N := 3) (H := H) (hm := hm) (nI := 3) (hI := (H : Int)) rfl rfl (by omega) (by omega) (by omega) (by omega) W)
    have HBA := Lib.hid (fun c v (h : Mq W v c 3 H hm []) => h.back (hI := (hm : Int)) (nI := 2) (n := 2) rfl rfl (by omega) (by simp))
    have HFR := Lib.hid (fun c v (h : Mq W v c 3 H hm [2]) => h.front (hI := (hm : Int)) (nI := 0) (n := 0) rfl rfl (by omega) (by simp))
    have HBH := Lib.hid (fun c v (h : Mq W v c 3 H hm [0, 2]) => h.badH (hI := (H : Int)) (nI := 1) (by omega))
    have HBN := Lib.hid (fun c v (h : Mq W v c 3 H hm [0, 2]) => h.badN (nI := 3) (by omega) (by omega))
    have HFI := Lib.hid (fun c v (h : Mq W v c 3 H hm [0, 2]) => h.first (hI := (hm : Int)) rfl)
    have HNX := Lib.hid (fun c v (h : Mq W v c 3 H hm [0, 2]) => h.next (nI := 0) rfl)
    have HLE := Lib.hid (fun c v (h : Mq W v c 3 H hm [0, 2]) => h.len (hI := (hm : Int)) rfl)
    clear hN hM h0 h1
    go_enter Try.func6, Try.ntmps6
    go_wp2_with fail
    refine HNEW.out.mono ?_
    rintro e v1 ⟨c, rfl, m1⟩
    have M1 := Lib.hid m1
    clear m1
    go_wp2_with fail
    refine M1.out.nodes.mono ?_
    rintro e v2 ⟨rfl, rfl⟩
    go_wp2_with fail
    refine M1.out.heads.mono ?_
    rintro e v2 ⟨rfl, rfl⟩
    go_wp2_with fail
    refine (HBA.out _ _ M1.out).mono ?_
    rintro e v2 ⟨rfl, m2⟩
    have M2 := Lib.hid m2
    clear m2
    go_wp2_with fail
    refine (HFR.out _ _ M2.out).mono ?_
    rintro e v3 ⟨rfl, m3⟩
    have M3 := Lib.hid m3
    clear m3
    go_wp2_with fail
    refine (HBH.out _ _ M3.out).mono ?_
    rintro e v4 ⟨rfl, m4⟩
    have M4 := Lib.hid m4
    clear m4
    go_wp2_with fail
    refine (HBN.out _ _ M4.out).mono ?_
    rintro e v5 ⟨rfl, m5⟩
    have M5 := Lib.hid m5
    clear m5
    go_wp2_with fail
    refine (HFI.out _ _ M5.out).mono ?_
    rintro e v6 ⟨rfl, m6⟩
    have M6 := Lib.hid m6
    clear m6
    go_wp2_with fail
    refine (HNX.out _ _ M6.out).mono ?_
    rintro e v7 ⟨rfl, m7⟩
    have M7 := Lib.hid m7
    clear m7
    go_wp2_with fail
    refine (gives_any _ _ _ _ _).mono ?_
    rintro e v8 ⟨rfl, rfl⟩
    go_wp2_with fail
    refine (gives_any _ _ _ _ _).mono ?_
    rintro e v8 ⟨rfl, rfl⟩
    go_wp2_with fail
    refine (HLE.out _ _ M7.out).mono ?_
    rintro e v8 ⟨rfl, rfl⟩
    go_wp2_with fail
    refine (HK.out _ M7.out.b).mono ?_
    rintro e w1 ⟨rfl, b1⟩
    have B1 := Lib.hid (tr M7.out.b b1)
    clear b1
    go_wp2_with fail
    go_ret
    exact ⟨rfl, B1.out⟩
end Go.Proofs.Ytajkcockeccdoaa.Lnk
