/-
  Walks over the law's helpers of layer 34, and a filter that may not be made.
-/
import Derived.Test.YtohldfhelppehaaBloI
import Derived.Test.YtohldfhelppehaaBloJ
import Derived.Test.YtohldfhelppehaaBloR
import Derived.Test.YtohldfhelppehaaBloQ
import Derived.Deep.RegionHeld3
set_option linter.unusedVariables false
set_option linter.unusedSimpArgs false
namespace Go.Proofs.Ytohldfhelppehaa.Blo
open Go.RowKit Kit Hash
theorem i64_and_nat (a b : Nat) (ha : a < 9223372036854775808) (hb : b < 9223372036854775808) : bits .and .i64 (a : Int) (b : Int) = ((a &&& b : Nat) : Int) := by
  have h1 : ((a : Int) % ((2 ^ 64 : Nat) : Int)).toNat = a := by omega
  have h2 : ((b : Int) % ((2 ^ 64 : Nat) : Int)).toNat = b := by omega
  have h3 : a &&& b ≤ a := Nat.and_le_left
  show IntKind.i64.wrap ((BitVec.ofInt 64 a &&& BitVec.ofInt 64 b).toNat : Nat) = _
  rw [BitVec.toNat_and, BitVec.toNat_ofInt, BitVec.toNat_ofInt, h1, h2]
  exact IntWalk.i64_in _ (by omega)
theorem top_bit {x k : Nat} (h1 : 2 ^ k ≤ x) (h2 : x < 2 ^ (k + 1)) : x.testBit k = true := by
  rw [Nat.testBit_eq_decide_div_mod_eq]
  have : x / 2 ^ k = 1 := Nat.div_eq_of_lt_le (by omega) (by rw [Nat.pow_succ] at h2; omega)
  rw [this]; rfl
theorem pow_of_and {b : Nat} (h : b ≠ 0) (h2 : b &&& (b - 1) = 0) : ∃ k, b = 2 ^ k := by
  refine ⟨b.log2, ?_⟩
  have h3 := Nat.log2_self_le h
  have h4 : b < 2 ^ (b.log2 + 1) := Nat.lt_log2_self
  rcases Nat.lt_or_ge (2 ^ b.log2) b with h5 | h5
  · have t1 := top_bit h3 h4
    have t2 := top_bit (x := b - 1) (k := b.log2) (by omega) (by omega)
    have : (b &&& (b - 1)).testBit b.log2 = true := by rw [Nat.testBit_and, t1, t2]; rfl
    rw [h2] at this; simp at this
  · omega
theorem not_pow {b : Int} (h : pwB b 15 = false) (h1 : 64 ≤ b) (h2 : b ≤ 1048576) : (bits .and .i64 b (b - 1) != 0) = true := by
  obtain ⟨n, rfl⟩ := Int.eq_ofNat_of_zero_le (show 0 ≤ b by omega)
  rw [bne_iff_ne]
  intro h0
  rw [show ((n : Int) - 1) = ((n - 1 : Nat) : Int) by omega, i64_and_nat _ _ (by omega) (by omega)] at h0
  obtain ⟨k, hk⟩ := pow_of_and (b := n) (by omega) (by omega)
  have hk6 : 6 ≤ k := by
    rcases Nat.lt_or_ge k 6 with h3 | h3
    · have := Nat.pow_le_pow_right (n := 2) (by decide) (show k ≤ 5 by omega)
      omega
    · exact h3
  have hk20 : k ≤ 20 := by
    rcases Nat.lt_or_ge 20 k with h3 | h3
    · have := Nat.pow_le_pow_right (n := 2) (by decide) (show 21 ≤ k by omega)
      omega
    · exact h3
  have : pwB (n : Int) 15 = true := pwB_of (i := k - 6) (by rw [hk]; congr 1; rw [show 64 = 2 ^ 6 from rfl, ← Nat.pow_add]; congr 1; omega) (by omega)
  rw [h] at this; cases this
set_option maxRecDepth 100000 in
theorem new_bad {hs sd b : Int} (h : alw b hs = false) (w : World) :
    Calls Try.prog 14 #[.int .i64 b, .int .i64 hs, .int .u64 sd] w fun e w' => e = .returned (.tuple #[.pointer none, .int .i64 2]) ∧ Below w.heap.size w w' := by
  by_cases h1 : b < 64
  · go_enter Try.func14, Try.ntmps14
    go_wp2_with fail
    go_ret2
    exact ⟨rfl, by go_grown⟩
  by_cases h2 : 1048576 < b
  · go_enter Try.func14, Try.ntmps14
    go_wp2_with fail
    go_ret2
    exact ⟨rfl, by go_grown⟩
  cases hp : pwB b 15
  · have hn := not_pow hp (by omega) (by omega)
    go_enter Try.func14, Try.ntmps14
    go_wp2_with fail
    go_ret2
    exact ⟨rfl, by go_grown⟩
  · obtain ⟨i, hi, hbi⟩ := pwB_ok hp
    have hn := and_pow i (by omega)
    rw [← hbi] at hn
    have hh : hs < 1 ∨ 8 < hs := by
      unfold alw at h; rw [hp] at h
      by_cases a : hs < 1
      · exact .inl a
      · by_cases c : 8 < hs
        · exact .inr c
        · have e1 : decide (1 ≤ hs) = true := by simp; omega
          have e2 : decide (hs ≤ 8) = true := by simp; omega
          rw [e1, e2] at h; cases h
    clear h hbi hp
    rcases hh with h3 | h3
    · go_enter Try.func14, Try.ntmps14
      go_wp2_with fail
      go_ret2
      exact ⟨rfl, by go_grown⟩
    · by_cases h4 : hs < 1
      · omega
      · go_enter Try.func14, Try.ntmps14
        go_wp2_with fail
        go_ret2
        exact ⟨rfl, by go_grown⟩
set_option maxRecDepth 100000 in
theorem adds_any {W : World} {p q n : Nat} {hs sd : Int} {s : Nat → Bool} (h : Fl W p q n hs sd s) (ok : Ok n hs sd) (k : ByteArray) (hk : k.size ≤ maxLen) (want : Bool) :
    Calls Try.prog 18 #[.pointer (some ⟨p, 0, none⟩), .string k, .bool want] W fun e w' => e = .returned (.bool ((!(pls (sumN sd k) (64 * n) hs.toNat).all s) == want)) ∧ Fl w' p q n hs sd (insL s (pls (sumN sd k) (64 * n) hs.toNat)) ∧ But q W w' := by
  have HA := Lib.hid (addR h ok k hk)
  clear h ok
  go_enter Try.func18, Try.ntmps18
  go_wp2_with fail
  refine HA.out.mono ?_
  rintro e w1 ⟨rfl, h1, h2⟩
  have H1 := Lib.hid h1
  have H2 := Lib.hid h2
  clear h1 h2
  generalize hb : (!(pls (sumN sd k) (64 * n) hs.toNat).all s) = b at *
  have HBX := Lib.hid hb
  clear hb
  cases b <;> cases want <;> (go_wp2_with fail; go_ret; exact ⟨by rw [HBX.out]; rfl, H1.out, H2.out⟩)
set_option maxRecDepth 100000 in
theorem places_any {W : World} {p q n g c : Nat} {hs sd : Int} {s : Nat → Bool} (h : Fl W p q n hs sd s) (ok : Ok n hs sd) (k : ByteArray) (hk : k.size ≤ maxLen) (hg : Row W g hs.toNat 3 (fun i => .int .i64 (pl (sumN sd k) (64 * n) i : Nat))) :
    Calls Try.prog 16 #[.pointer (some ⟨p, 0, none⟩), .string k, .slice (some ⟨g, 0, none⟩) hs.toNat c] W fun e w' => e = .returned (.bool true) ∧ Below W.heap.size W w' := by
  have HP := Lib.hid (placesR h ok k hk)
  have HG := Lib.hid hg
  have h1 := ok.h1
  have h2 := ok.h2
  clear h ok hg
  go_enter Try.func16, Try.ntmps16
  go_wp2_with fail
  refine HP.out.mono ?_
  rintro e w1 ⟨v, rfl, hown, b1⟩
  obtain ⟨g1, c1, hv, hg1, hrow⟩ := pls_row hown (by omega)
  subst hv
  have B1 := Lib.hid b1
  have HI := Lib.hid (fun c c' => ints_any (W := w1) (ca := c) (cb := c') (f := fun i => ((pl (sumN sd k) (64 * n) i : Nat) : Int)) hrow (HG.out.below b1) (by omega))
  clear hown hrow b1
  go_wp2_with fail
  refine (HI.out _ _).mono ?_
  rintro e w2 ⟨rfl, b2⟩
  go_wp2_with fail
  go_ret
  exact ⟨rfl, tr B1.out b2⟩
theorem Below.of_eq2 {a b : World} (h : a = b) : Below a.heap.size a b := by subst h; exact Below.refl _ _
theorem eq_start {W : World} {r m c : Nat} {hs sd : Int} (q0 : (W.alloc (rfO hs sd r m c)).heap[W.heap.size]? = some (rfO hs sd r m c)) :
    (W.alloc (rfO hs sd r m c)).drew.cell? ⟨W.heap.size, 0, none⟩ = some (.int .i64 hs) ∧ (W.alloc (rfO hs sd r m c)).drew.cell? ⟨W.heap.size, 1, none⟩ = some (.int .u64 sd) ∧ (W.alloc (rfO hs sd r m c)).drew.cell? ⟨W.heap.size, 2, none⟩ = some (.slice (some ⟨r, 0, none⟩) m c) ∧ W.heap.size < (W.alloc (rfO hs sd r m c)).drew.heap.size ∧ Below W.heap.size W (W.alloc (rfO hs sd r m c)).drew := by
  have q1 : (W.alloc (rfO hs sd r m c)).drew.heap[W.heap.size]? = some (rfO hs sd r m c) := q0
  exact ⟨by unfold World.cell?; rw [q1]; rfl, by unfold World.cell?; rw [q1]; rfl, by unfold World.cell?; rw [q1]; rfl, by simp, by go_grown⟩
theorem eq_keep {W a b : World} {r m c : Nat} {hs sd : Int} (k : Below a.heap.size a b)
    (h : a.cell? ⟨W.heap.size, 0, none⟩ = some (.int .i64 hs) ∧ a.cell? ⟨W.heap.size, 1, none⟩ = some (.int .u64 sd) ∧ a.cell? ⟨W.heap.size, 2, none⟩ = some (.slice (some ⟨r, 0, none⟩) m c) ∧ W.heap.size < a.heap.size ∧ Below W.heap.size W a) :
    b.cell? ⟨W.heap.size, 0, none⟩ = some (.int .i64 hs) ∧ b.cell? ⟨W.heap.size, 1, none⟩ = some (.int .u64 sd) ∧ b.cell? ⟨W.heap.size, 2, none⟩ = some (.slice (some ⟨r, 0, none⟩) m c) ∧ W.heap.size < b.heap.size ∧ Below W.heap.size W b := by
  obtain ⟨c1, _, s⟩ := bcell k
  obtain ⟨h1, h2, h3, h4, h5⟩ := h
  exact ⟨by rw [c1 _ _ h4]; exact h1, by rw [c1 _ _ h4]; exact h2, by rw [c1 _ _ h4]; exact h3, by omega, tr h5 k⟩
theorem rplaces2 {W : World} {r n c : Nat} {hs sd : Int} (ok : Ok n hs sd) (k : ByteArray) (hk : k.size ≤ maxLen) :
    Calls Try.prog 17 #[rf hs sd r (64 * n) c, .string k] W fun e w' => ∃ g c', e = .returned (.slice (some ⟨g, 0, none⟩) hs.toNat c') ∧ Row w' g hs.toNat 3 (fun i => .int .i64 (pl (sumN sd k) (64 * n) i : Nat)) ∧ Below W.heap.size W w' := by
  have h1 := ok.h1
  refine (rplacesR ok k hk).mono ?_
  rintro e w' ⟨v, rfl, hown, hb⟩
  obtain ⟨g, c', rfl, -, hr⟩ := pls_row hown (by omega)
  exact ⟨g, c', rfl, hr, hb⟩
set_option maxRecDepth 100000 in
set_option maxHeartbeats 4000000 in
theorem equal_any {W : World} {p q n r c : Nat} {hs sd : Int} {s : Nat → Bool} (h : Fl W p q n hs sd s) (hr : Rr W r (64 * n) s) (ok : Ok n hs sd) (k : ByteArray) (hk : k.size ≤ maxLen) :
    Calls Try.prog 15 #[.pointer (some ⟨p, 0, none⟩), rf hs sd r (64 * n) c, .string k] W fun e w' => e = .returned (.bool true) ∧ Below W.heap.size W w' := by
  have HF := Lib.hid h
  have HR := Lib.hid hr
  have HOK := Lib.hid ok
  clear h hr ok
  go_enter Try.func15, Try.ntmps15
  go_wp2_with fail
  have q0 : (W.alloc (rfO hs sd r (64 * n) c)).heap[W.heap.size]? = some (rfO hs sd r (64 * n) c) := (MapKept.heap_alloc W _).1
  have n2 := HOK.out.n2
  have h8 := HOK.out.h2
  have h9 := HOK.out.h1
  go_region_held3 (fun w' => w'.cell? ⟨W.heap.size, 0, none⟩ = some (.int .i64 hs) ∧ w'.cell? ⟨W.heap.size, 1, none⟩ = some (.int .u64 sd) ∧ w'.cell? ⟨W.heap.size, 2, none⟩ = some (.slice (some ⟨r, 0, none⟩) (64 * n) c) ∧ W.heap.size < w'.heap.size ∧ Below W.heap.size W w')
    (first
      | (exact eq_keep o1 (by assumption))
      | (exact eq_start q0)
      | (trace_state; fail))
    (first
      | (go_at_call 28; refine (wordsR (HF.out.below (by assumption : _ ∧ _ ∧ _ ∧ _ ∧ Below _ _ _).2.2.2.2) HOK.out).mono ?_; rintro e w' ⟨g1, rfl, hg1, hr1, o1⟩)
      | (go_at_call 48; refine (rwordsR (HR.out.below (by assumption : _ ∧ _ ∧ _ ∧ _ ∧ Below _ _ _).2.2.2.2) HOK.out.n1 HOK.out.n2).mono ?_; rintro e w' ⟨g2, rfl, hr2, hg2, o1⟩)
      | (go_at_call 29; refine (same_any (f := fun i => ((wd s i : Nat) : Int)) (hr1.below o1) hr2 n2).mono ?_; rintro e w' ⟨rfl, o1⟩)
      | (go_at_call 20; refine (onesR (HF.out.below (by assumption : _ ∧ _ ∧ _ ∧ _ ∧ Below _ _ _).2.2.2.2) HOK.out).mono ?_; rintro e w' ⟨rfl, o1⟩; replace o1 := Below.of_eq2 o1)
      | (go_at_call 49; refine (ronesR (HR.out.below (by assumption : _ ∧ _ ∧ _ ∧ _ ∧ Below _ _ _).2.2.2.2) (by omega)).mono ?_; rintro e w' ⟨rfl, o1⟩)
      | (go_at_call 19; refine (hasR (HF.out.below (by assumption : _ ∧ _ ∧ _ ∧ _ ∧ Below _ _ _).2.2.2.2) HOK.out k hk).mono ?_; rintro e w' ⟨rfl, o1⟩)
      | (go_at_call 50; refine (rhasR (HR.out.below (by assumption : _ ∧ _ ∧ _ ∧ _ ∧ Below _ _ _).2.2.2.2) HOK.out k hk).mono ?_; rintro e w' ⟨rfl, o1⟩)
      | (go_at_call 17; refine (rplaces2 HOK.out k hk).mono ?_; rintro e w' ⟨g3, c3, rfl, hr3, o1⟩)
      | (go_at_call 16; refine (places_any (HF.out.below (by assumption : _ ∧ _ ∧ _ ∧ _ ∧ Below _ _ _).2.2.2.2) HOK.out k hk hr3).mono ?_; rintro e w' ⟨rfl, o1⟩))
  go_wp2
  go_ret
  exact ⟨by simp, (by assumption : _ ∧ _ ∧ _ ∧ _ ∧ Below W.heap.size W _).2.2.2.2⟩
end Go.Proofs.Ytohldfhelppehaa.Blo
