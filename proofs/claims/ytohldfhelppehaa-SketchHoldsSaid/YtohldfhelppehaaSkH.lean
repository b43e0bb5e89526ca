/-
  The laws' comparison of a sketch with the reference's (layer 33).
-/
import Derived.Test.YtohldfhelppehaaSkI
set_option linter.unusedVariables false
set_option linter.unusedSimpArgs false
namespace Go.Proofs.Ytohldfhelppehaa.Skt
open Go.RowKit Kit Hash Blo
theorem eqs_of {W w : World} {n : Nat} {m t sd : Int} {r rc : Nat → Nat} (h : Bs w W.heap.size n m t sd r rc) (hb : Below W.heap.size W w) : w.cell? ⟨W.heap.size, 0, none⟩ = some (.int .i64 n) ∧ w.cell? ⟨W.heap.size, 1, none⟩ = some (.int .i64 m) ∧ w.cell? ⟨W.heap.size, 2, none⟩ = some (.int .i64 t) ∧ w.cell? ⟨W.heap.size, 3, none⟩ = some (.int .u64 sd) ∧ w.cell? ⟨W.heap.size, 4, none⟩ = some (.slice (some ⟨r 0, 0, none⟩) n (rc 0)) ∧ w.cell? ⟨W.heap.size, 5, none⟩ = some (.slice (some ⟨r 1, 0, none⟩) n (rc 1)) ∧ w.cell? ⟨W.heap.size, 6, none⟩ = some (.slice (some ⟨r 2, 0, none⟩) n (rc 2)) ∧ w.cell? ⟨W.heap.size, 7, none⟩ = some (.slice (some ⟨r 3, 0, none⟩) n (rc 3)) ∧ W.heap.size < w.heap.size ∧ Below W.heap.size W w := ⟨h.c0, h.c1, h.c2, h.c3, h.r0, h.r1, h.r2, h.r3, h.lt, hb⟩
theorem eqs_keep {W a b : World} {n : Nat} {m t sd : Int} {r rc : Nat → Nat} (k : Below a.heap.size a b) (h : a.cell? ⟨W.heap.size, 0, none⟩ = some (.int .i64 n) ∧ a.cell? ⟨W.heap.size, 1, none⟩ = some (.int .i64 m) ∧ a.cell? ⟨W.heap.size, 2, none⟩ = some (.int .i64 t) ∧ a.cell? ⟨W.heap.size, 3, none⟩ = some (.int .u64 sd) ∧ a.cell? ⟨W.heap.size, 4, none⟩ = some (.slice (some ⟨r 0, 0, none⟩) n (rc 0)) ∧ a.cell? ⟨W.heap.size, 5, none⟩ = some (.slice (some ⟨r 1, 0, none⟩) n (rc 1)) ∧ a.cell? ⟨W.heap.size, 6, none⟩ = some (.slice (some ⟨r 2, 0, none⟩) n (rc 2)) ∧ a.cell? ⟨W.heap.size, 7, none⟩ = some (.slice (some ⟨r 3, 0, none⟩) n (rc 3)) ∧ W.heap.size < a.heap.size ∧ Below W.heap.size W a) : b.cell? ⟨W.heap.size, 0, none⟩ = some (.int .i64 n) ∧ b.cell? ⟨W.heap.size, 1, none⟩ = some (.int .i64 m) ∧ b.cell? ⟨W.heap.size, 2, none⟩ = some (.int .i64 t) ∧ b.cell? ⟨W.heap.size, 3, none⟩ = some (.int .u64 sd) ∧ b.cell? ⟨W.heap.size, 4, none⟩ = some (.slice (some ⟨r 0, 0, none⟩) n (rc 0)) ∧ b.cell? ⟨W.heap.size, 5, none⟩ = some (.slice (some ⟨r 1, 0, none⟩) n (rc 1)) ∧ b.cell? ⟨W.heap.size, 6, none⟩ = some (.slice (some ⟨r 2, 0, none⟩) n (rc 2)) ∧ b.cell? ⟨W.heap.size, 7, none⟩ = some (.slice (some ⟨r 3, 0, none⟩) n (rc 3)) ∧ W.heap.size < b.heap.size ∧ Below W.heap.size W b := by
  obtain ⟨c1, _, s⟩ := bcell k
  obtain ⟨h0, h1, h2, h3, h4, h5, h6, h7, h8, h9⟩ := h
  exact ⟨by rw [c1 _ _ h8]; exact h0, by rw [c1 _ _ h8]; exact h1, by rw [c1 _ _ h8]; exact h2, by rw [c1 _ _ h8]; exact h3, by rw [c1 _ _ h8]; exact h4, by rw [c1 _ _ h8]; exact h5, by rw [c1 _ _ h8]; exact h6, by rw [c1 _ _ h8]; exact h7, by omega, tr h9 k⟩
set_option maxRecDepth 100000 in
set_option maxHeartbeats 4000000 in
theorem equal_any {W : World} {p lo hi n : Nat} {m t sd : Int} (hs : Word sd) {q c r rc : Nat → Nat} {F : Nat → Nat → Nat} (h : Skf W p lo hi n m t sd q c F) (hr : Rw W r n F) (n1 : 16 ≤ n) (n2 : n ≤ 65536) (hF : ∀ i j, F i j ≤ 15) (k : ByteArray) (hk : k.size ≤ maxLen) :
    Calls Try.prog 33 #[.pointer (some ⟨p, 0, none⟩), skv n m t sd r rc, .string k] W fun e w' => e = .returned (.bool true) ∧ Below W.heap.size W w' := by
  have H := Lib.hid h
  have HR := Lib.hid hr
  have HF := Lib.hid hF
  have HPR := Lib.hid (fun (w : World) (hb : Below W.heap.size W w) {i : Nat} (hi : i < 4) => prow (h.below hb).s n1 n2 hi ((h.below hb).cr hi) (f := F i) (fun j => by have := hF i j; omega) ((h.below hb).r i hi))
  have HPL := Lib.hid (fun (w : World) (hb : Below W.heap.size W w) => lplc hs (h.below hb).s n1 n2 k hk)
  have HRP := Lib.hid (fun (w : World) => rplc (W := w) (m := m) (t := t) hs (r1 := r 0) (c1 := rc 0) (r2 := r 1) (c2 := rc 1) (r3 := r 2) (c3 := rc 2) (r4 := r 3) (c4 := rc 3) n1 n2 k hk)
  have HPC := Lib.hid (fun (w : World) (hb : Below W.heap.size W w) => pcount hs (h.below hb).s n1 n2 (Row.below (h.r 0 (by decide)) hb) (Row.below (h.r 1 (by decide)) hb) (Row.below (h.r 2 (by decide)) hb) (Row.below (h.r 3 (by decide)) hb) k hk)
  have HRC := Lib.hid (fun (w : World) (hb : Below W.heap.size W w) => rcount (m := m) (t := t) (c := rc) hs n1 n2 (hr.below hb) hF k hk)
  have HPA := Lib.hid (fun (w : World) (hb : Below W.heap.size W w) => padds (h.below hb).s n1)
  simp only [cn_cK] at HPC
  generalize cK (sumN sd k) n F = cc at *
  unfold skv sk at *
  clear h hr hF hs
  go_enter Try.func33, Try.ntmps33
  go_wp2_with fail
  have BX0 := Lib.hid (show Bs (W.alloc (hO n m t sd r rc)) W.heap.size n m t sd r rc from (MapKept.heap_alloc W _).1)
  have B0 := Lib.hid (show Below W.heap.size W (W.alloc (hO n m t sd r rc)) by go_grown)
  unfold hO at BX0 B0
  go_loopw [7] (fun i wr => ∃ j : Nat, j ≤ 4 ∧ i = .int .i64 j ∧ Bs wr W.heap.size n m t sd r rc ∧ Below W.heap.size W wr) (fun i _ => 4 - (intOf i).toNat)
  case atStart => exact ⟨0, by omega, rfl, BX0.out, B0.out⟩
  case round =>
    clear BX0 B0
    obtain ⟨a, ha, rfl, hS, hB⟩ := hrel
    have BX := Lib.hid hS
    have B := Lib.hid hB
    clear hS hB
    by_cases ha4 : a < 4
    · have hd : decide ((a : Int) < 4) = true := decide_eq_true (by omega)
      go_wp2_with fail
      refine (HPR.out _ B.out ha4).mono ?_
      rintro e w1 ⟨g, rfl, hg, hgl, b1⟩
      have BX1 := Lib.hid (BX.out.below b1)
      have B1 := Lib.hid (tr B.out b1)
      have HG := Lib.hid hg
      have kr := BX1.out.row ha4
      have HS := Lib.hid (same33 (ca := n) (cb := rc a) (f := fun i => ((F a i : Nat) : Int)) hg (HR.out.below B1.out a ha4) n2)
      clear b1 hg hgl BX B
      go_wp2_with fail
      refine HS.out.mono ?_
      rintro e w2 ⟨rfl, b2⟩
      have BX2 := Lib.hid (BX1.out.below b2)
      have B2 := Lib.hid (tr B1.out b2)
      clear b2 BX1 B1 HG kr HS
      go_wp2_with fail
      go_roundw
      case rel => exact ⟨a + 1, by omega, by go_num, BX2.out, B2.out⟩
      case measure => simp [intOf] <;> omega
    · obtain rfl : a = 4 := by omega
      have hd4 : decide (((4 : Nat) : Int) < 4) = false := by decide
      have q0 := eqs_of (BX.out.below ((Below.refl _ wr).drew)) (tr B.out ((Below.refl _ wr).drew))
      go_wp2_with fail
      go_region_held3 (fun w' => w'.cell? ⟨W.heap.size, 0, none⟩ = some (.int .i64 n) ∧ w'.cell? ⟨W.heap.size, 1, none⟩ = some (.int .i64 m) ∧ w'.cell? ⟨W.heap.size, 2, none⟩ = some (.int .i64 t) ∧ w'.cell? ⟨W.heap.size, 3, none⟩ = some (.int .u64 sd) ∧ w'.cell? ⟨W.heap.size, 4, none⟩ = some (.slice (some ⟨r 0, 0, none⟩) n (rc 0)) ∧ w'.cell? ⟨W.heap.size, 5, none⟩ = some (.slice (some ⟨r 1, 0, none⟩) n (rc 1)) ∧ w'.cell? ⟨W.heap.size, 6, none⟩ = some (.slice (some ⟨r 2, 0, none⟩) n (rc 2)) ∧ w'.cell? ⟨W.heap.size, 7, none⟩ = some (.slice (some ⟨r 3, 0, none⟩) n (rc 3)) ∧ W.heap.size < w'.heap.size ∧ Below W.heap.size W w')
        (first
          | (exact eqs_keep o1 (by assumption))
          | (exact q0)
          | (trace_state; fail))
        (first
          | (go_at_call 35; refine (HRP.out _).mono ?_; rintro e w' ⟨rfl, o1⟩)
          | (go_at_call 34; refine (HPL.out _ (by assumption : _ ∧ _ ∧ _ ∧ _ ∧ _ ∧ _ ∧ _ ∧ _ ∧ _ ∧ Below _ _ _).2.2.2.2.2.2.2.2.2).mono ?_; rintro e w' ⟨rfl, o1⟩)
          | (go_at_call 44; refine (HPC.out _ (by assumption : _ ∧ _ ∧ _ ∧ _ ∧ _ ∧ _ ∧ _ ∧ _ ∧ _ ∧ Below _ _ _).2.2.2.2.2.2.2.2.2).mono ?_; rintro e w' ⟨rfl, o1⟩)
          | (go_at_call 61; refine (HRC.out _ (by assumption : _ ∧ _ ∧ _ ∧ _ ∧ _ ∧ _ ∧ _ ∧ _ ∧ _ ∧ Below _ _ _).2.2.2.2.2.2.2.2.2).mono ?_; rintro e w' ⟨rfl, o1⟩)
          | (go_at_call 43; refine (HPA.out _ (by assumption : _ ∧ _ ∧ _ ∧ _ ∧ _ ∧ _ ∧ _ ∧ _ ∧ _ ∧ Below _ _ _).2.2.2.2.2.2.2.2.2).mono ?_; rintro e w' ⟨rfl, o1⟩; replace o1 := Below.of_eq2 o1))
      go_wp2
      go_ret
      exact ⟨by simp, (by assumption : _ ∧ _ ∧ _ ∧ _ ∧ _ ∧ _ ∧ _ ∧ _ ∧ _ ∧ Below _ _ _).2.2.2.2.2.2.2.2.2⟩
end Go.Proofs.Ytohldfhelppehaa.Skt
