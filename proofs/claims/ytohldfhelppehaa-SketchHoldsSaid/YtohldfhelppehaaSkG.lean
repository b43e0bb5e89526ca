/-
  The law of layer 33 on new sketches.
-/
import Derived.Test.YtohldfhelppehaaSkH
set_option linter.unusedVariables false
set_option linter.unusedSimpArgs false
namespace Go.Proofs.Ytohldfhelppehaa.Skt
open Go.RowKit Kit Hash Blo
theorem rnew {W : World} {m sd b : Int} {n : Nat} (hin : In b m) (ha : als b m = true) (hb : b = n) :
    Calls Try.prog 30 #[.int .i64 b, .int .u64 sd, .int .i64 m] W fun e w' => ∃ r c, e = .returned (.tuple #[skv n m 0 sd r c, .int .i64 0]) ∧ Rw w' r n (fun _ _ => 0) ∧ (∀ i, i < 4 → W.heap.size ≤ r i ∧ r i < w'.heap.size) ∧ Below W.heap.size W w' := by
  refine (snew_any hin.b0 hin.b1 hin.h0 hin.h1).mono ?_
  rintro e w1 ⟨b1, ⟨-, r1, r2, r3, r4, rfl, h1, h2, h3, h4, l1, l2, l3, l4⟩ | ⟨h, rfl⟩⟩
  · subst hb
    have j2 : W.heap.size ≤ r2 := by omega
    have j3 : W.heap.size ≤ r3 := by omega
    have j4 : W.heap.size ≤ r4 := by omega
    have k1 := h1.lt; have k2 := h2.lt; have k3 := h3.lt; have k4 := h4.lt
    exact ⟨fun i => match i with | 0 => r1 | 1 => r2 | 2 => r3 | _ => r4, fun _ => n, rfl, four h1 h2 h3 h4, four ⟨l1, k1⟩ ⟨j2, k2⟩ ⟨j3, k3⟩ ⟨j4, k4⟩, b1⟩
  · rw [ha] at h; cases h
set_option maxRecDepth 100000 in
set_option maxHeartbeats 2000000 in
theorem lnew_any {W : World} {b m sd : Int} (hin : In b m) (hsd : Word sd) (hk : Kns W) :
    Calls Try.prog 8 #[.int .i64 b, .int .u64 sd, .int .i64 m] W fun e w' => e = .returned (.bool true) ∧ Below W.heap.size W w' := by
  have HK := Lib.hid hk
  clear hk
  cases ha : als b m
  · have HR := Lib.hid (fun w => snew_bad (W := w) (sd := sd) hin ha)
    have HA := Lib.hid ha
    clear ha
    unfold sk0 at HR
    go_enter Try.func8, Try.ntmps8
    go_wp2_with fail
    refine (HR.out _).mono ?_
    rintro e w1 ⟨rfl, b1⟩
    have B1 := Lib.hid b1
    clear b1
    go_wp2_with fail
    refine (pnew_bad HA.out _).mono ?_
    rintro e w2 ⟨rfl, b2⟩
    have B2 := Lib.hid (by first | exact tr (tr B1.out (by go_grown)) b2 | exact tr B1.out b2 : Below W.heap.size W w2)
    clear b2
    go_wp2_with fail
    refine (HK.out _ B2.out).mono ?_
    rintro e w3 ⟨rfl, b3⟩
    go_wp2_with fail
    go_ret
    exact ⟨rfl, tr B2.out b3⟩
  · obtain ⟨n, rfl, n1, n2⟩ := als_n ha
    have HR := Lib.hid (fun w => rnew (W := w) (sd := sd) (n := n) hin ha rfl)
    have HN := Lib.hid (fun w => new_skf (sd := sd) (n := n) ha rfl w)
    clear ha hin
    unfold skv sk at HR
    go_enter Try.func8, Try.ntmps8
    go_wp2_with fail
    refine (HR.out _).mono ?_
    rintro e w1 ⟨r, c, rfl, hr, hg, b1⟩
    have HR1 := Lib.hid hr
    have B1 := Lib.hid b1
    clear hr b1 hg
    by_cases hbig : 2000 < n
    · have hbi : (2000 : Int) < (n : Int) := by omega
      go_wp2_with fail
      refine (HK.out _ (by first | exact B1.out | exact tr B1.out (by go_grown))).mono ?_
      rintro e w3 ⟨rfl, b3⟩
      go_wp2_with fail
      go_ret
      exact ⟨rfl, by first | exact tr B1.out b3 | exact tr (tr B1.out (by go_grown)) b3⟩
    · have hbi : ¬ (2000 : Int) < (n : Int) := by omega
      go_wp2_with fail
      refine (HN.out _).mono ?_
      rintro e w2 ⟨p, q, cc, rfl, hs, b2⟩
      have HS := Lib.hid hs
      have BX := Lib.hid (show Bs w2 w1.heap.size n m 0 sd r c from Bs.below (show Bs (w1.alloc (hO n m 0 sd r c)) w1.heap.size n m 0 sd r c from (MapKept.heap_alloc w1 _).1) b2)
      have B2 := Lib.hid (show Below W.heap.size W w2 from tr (tr B1.out (by go_grown)) b2)
      have HR2 := Lib.hid (Rw.below HR1.out (show Below w1.heap.size w1 w2 from tr (by go_grown) b2))
      have HE := Lib.hid (equal_any (rc := c) hsd hs HR2.out n1 n2 (fun _ _ => Nat.zero_le _) ⟨#[97]⟩ (by decide))
      unfold skv sk at HE
      obtain ⟨⟨g0, g1, g2, g3⟩, ⟨g4, g5, g6, g7⟩⟩ := BX.out.all
      have hl2 := BX.out.lt
      clear b2 hs
      go_wp2_with fail
      refine HE.out.mono ?_
      rintro e w3 ⟨rfl, b3⟩
      have B3 := Lib.hid (tr B2.out b3)
      clear b3
      go_wp2_with fail
      refine (HK.out _ B3.out).mono ?_
      rintro e w4 ⟨rfl, b4⟩
      go_wp2_with fail
      go_ret
      exact ⟨rfl, tr B3.out b4⟩
end Go.Proofs.Ytohldfhelppehaa.Skt
