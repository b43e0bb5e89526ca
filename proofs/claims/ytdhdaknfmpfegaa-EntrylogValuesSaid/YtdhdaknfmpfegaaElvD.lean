/-
  Package entrylog (layer 9): EntrylogValues.
-/
import Derived.Test.YtdhdaknfmpfegaaElvC
import Derived.Test.YtdhdaknfmpfegaaRow
set_option linter.unusedVariables false
set_option linter.unusedSimpArgs false
namespace Go.Proofs.Ytdhdaknfmpfegaa.Elg
open Go Go.RowKit Kit Ent
section
variable {w0 v v' : World} {o live n : Nat} {X : Nat → Prop}
set_option maxRecDepth 100000 in
theorem appends_ok (h : Lw w0 v o live n X) (hn : n ≤ 1000) (hlv : live ≤ 1000) (k : ByteArray) (hk : keyB k = true) (p : Option Addr) (l c : Nat) (zs : List Int) (hl : l ≤ 65536) (hz : Ev.BytesOf v p l zs) (d b : Int) (hb : b ≠ 0) :
    Calls Try.prog 19 #[lp o, ent k p l c d b, .int .u32 (n : Int)] v fun e w' => e = .returned (.bool true) ∧ LwR w0 v w' o (live + 1) (n + 1) X := by
  have b0 : Below v.heap.size v (v.alloc (.cells #[.string k, .slice p l c, .int .u64 d, .int .u64 b] 36)) := by go_grown
  have HA := Lib.hid (append_ok (c := c) (h.below' b0) hn hlv k hk p l zs hl (hz.below b0) d b hb)
  have H0 := Lib.hid (h.rb b0)
  have hnn : ((n : Int) == (n : Int)) = true := beq_self_eq_true _
  clear h hn hlv hk hl hz hb b0
  go_enter Try.func19, Try.ntmps19
  go_wp2_with fail
  refine HA.out.mono ?_
  rintro e w1 ⟨rfl, hr⟩
  have HR := Lib.hid (H0.out.trans hr)
  clear hr HA
  go_wp2_with fail
  exact bodyPost_ret (v := .bool true) (by simp [results, Try.results19, go_sem]) rfl ⟨rfl, HR.out⟩
/-- bytes lie as their block lies -/
theorem bytes_at {w w' : World} {vb : Nat} {l : Nat} {zs : List Int} (h : Ev.BytesOf w (some ⟨vb, 0, none⟩) l zs) (hb : w'.heap[vb]? = w.heap[vb]?) : Ev.BytesOf w' (some ⟨vb, 0, none⟩) l zs := by
  obtain ⟨h1, h2, h3, h4⟩ := h
  refine ⟨h1, h2, fun hl => ?_, h4⟩
  obtain ⟨p, o', e, hc⟩ := h3 hl
  cases e
  refine ⟨vb, 0, rfl, fun i hi => ?_⟩
  rw [← hc i hi]
  unfold World.cell?
  rw [hb]
theorem made_bytes (w : World) (N : Nat) (hN : N ≤ 100000) : Ev.BytesOf (w.alloc (.cells (madeCells #[Value.int .u8 0] N) 5)) (some ⟨w.heap.size, 0, none⟩) N (List.replicate N 0) := by
  have hr : Row (w.alloc (.cells (madeCells #[Value.int .u8 0] N) 5)) w.heap.size N 5 (fun _ => .int .u8 0) := Row.made w (.int .u8 0) rfl N 5
  refine ⟨List.length_replicate, fun n hn => by rw [List.eq_of_mem_replicate hn]; omega, fun _ => ⟨w.heap.size, 0, rfl, fun i hi => ?_⟩, by unfold maxLen; omega⟩
  rw [Nat.zero_add, hr.cell i hi]
  simp [List.getD_eq_getElem?_getD, hi]
end
theorem key_a : keyB ⟨#[97]⟩ = true := by decide
theorem key_b : keyB ⟨#[98]⟩ = true := by decide
set_option maxRecDepth 100000 in
set_option maxHeartbeats 4000000 in
theorem vals_bi {w : World} {N slot : Nat} (h0 : 65530 ≤ N) (h1 : N ≤ 65540) (hbig : 65536 < N) (hs : slot < 4294967296) (hin : slot < 1) (HK : ∀ v, Below w.heap.size w v → Calls Try.prog 8 #[] v fun e w' => e = .returned (.bool true) ∧ Below v.heap.size v w') :
    Calls Try.prog 5 #[.int .i64 (N : Int), .int .u32 (slot : Int)] w fun e w' => e = .returned (.bool true) ∧ Below w.heap.size w w' := by
  have HNW := Lib.hid (lnew_any w)
  have HK0 := Lib.hid HK
  have HI := Lib.hid (And.intro h0 (And.intro h1 (And.intro hbig (And.intro hs hin))))
  have hmk := fun u => make_any (P := Try.prog) u 32 5 (.int .u8 0) 1 1 Try.underlying32 u8_info (N : Int) (by omega) (by omega) (by omega)
  simp only [Int.toNat_natCast, Nat.mul_one] at hmk
  have g1 : ¬ (N : Int) < 65530 := by omega
  have g2 : ¬ (65540 : Int) < (N : Int) := by omega
  have g3 : (65536 : Int) < (N : Int) := by omega
  have d1 : decide ((N : Int) < 65530) = false := decide_eq_false g1
  have d2 : decide ((65540 : Int) < (N : Int)) = false := decide_eq_false g2
  have d3 : decide ((65536 : Int) < (N : Int)) = true := decide_eq_true g3
  have d4 : decide (N < 65530) = false := decide_eq_false (by omega)
  have d5 : decide (65540 < N) = false := decide_eq_false (by omega)
  have d6 : decide (65536 < N) = true := decide_eq_true (by omega)
  have ws : IntKind.i64.wrap (slot : Int) = (slot : Int) := IntWalk.i64_in _ (by omega)
  clear h0 h1 hbig hs hin HK g1 g2 g3
  go_enter Try.func5, Try.ntmps5
  go_wp2_with fail
  refine HNW.out.mono ?_
  rintro e w1 ⟨o, rfl, hl⟩
  have L1 := Lib.hid hl
  clear hl HNW
  go_wp2_with fail
  refine (appends_ok (c := 0) L1.out (by omega) (by omega) ⟨#[97]⟩ key_a none 0 [] (by omega) ⟨rfl, by simp, Lib.BytesIn.nil _ _ _, Nat.zero_le _⟩ 0 1 (by omega)).mono ?_
  rintro e w2 ⟨rfl, hr⟩
  have L2 := Lib.hid hr.1
  clear hr L1
  go_upto_region 7 with fail
  have hb3 : Below w2.heap.size w2 (w2.alloc (.cells (madeCells #[Value.int .u8 0] N) 5)) := by go_grown
  have L3 := Lib.hid ((L2.out.below hb3).only (X' := fun k => k = w2.heap.size) fun k hk => .inr (by subst hk; exact ⟨Nat.le_refl _, by rw [World.size_alloc]; omega⟩))
  have Z3 := Lib.hid (made_bytes w2 N (by have := HI.out; omega))
  clear hb3 L2 hmk
  generalize w2.alloc (.cells (madeCells #[Value.int .u8 0] N) 5) = w3 at *
  generalize w2.heap.size = vb at *
  have HAP := Lib.hid (append_long L3.out ⟨#[98]⟩ key_b (some ⟨vb, 0, none⟩) N N _ (by have := HI.out; omega) (by have := HI.out; omega) Z3.out 0 2 (by omega))
  go_wp2_with fail
  refine HAP.out.mono ?_
  rintro e w4 ⟨rfl, hr⟩
  have L4 := Lib.hid hr.1
  have Z4 := Lib.hid (bytes_at Z3.out (hr.2.1 vb rfl))
  clear hr L3 Z3 HAP
  have HS1 := Lib.hid (set_long L4.out 0 (by have := HI.out; omega) (by have := HI.out; omega) (by omega) (some ⟨vb, 0, none⟩) N N (by have := HI.out; omega) 3)
  go_wp2_with fail
  refine HS1.out.mono ?_
  rintro e w5 ⟨rfl, hr⟩
  have L5 := Lib.hid hr.1
  have Z5 := Lib.hid (bytes_at Z4.out (hr.2.1 vb rfl))
  clear hr L4 Z4 HS1
  have HS2 := Lib.hid (set_long L5.out slot (by have := HI.out; omega) (by have := HI.out; omega) (by omega) (some ⟨vb, 0, none⟩) N N (by have := HI.out; omega) 3)
  go_wp2_with fail
  refine HS2.out.mono ?_
  rintro e w6 ⟨rfl, hr⟩
  have L6 := Lib.hid hr.1
  clear hr
  have HL := Lib.hid (llen_any L6.out)
  have HNB := Lib.hid L6.out.bl
  have gs1 : ¬ (1 : Int) ≤ (slot : Int) := by have := HI.out; omega
  have gs2 : decide ((1 : Int) ≤ (slot : Int)) = false := decide_eq_false (by have := HI.out; omega)
  have gs3 : decide (1 ≤ slot) = false := decide_eq_false (by have := HI.out; omega)
  have gs4 : decide (((1 : Nat) : Int) ≤ (slot : Int)) = false := decide_eq_false (by have := HI.out; omega)
  clear HS2 L5 Z5
  go_wp2_with fail
  refine HL.out.mono ?_
  rintro e w7 ⟨rfl, rfl⟩
  go_wp2_with fail
  refine HL.out.mono ?_
  rintro e w7 ⟨rfl, rfl⟩
  go_wp2_with fail
  refine (HK0.out _ HNB.out).mono ?_
  rintro e w9 ⟨rfl, b9⟩
  have B9 := Lib.hid (tr HNB.out b9)
  clear b9
  go_wp2_with fail
  exact bodyPost_ret (v := .bool true) (by simp [results, Try.results5, go_sem]) rfl ⟨rfl, B9.out⟩
set_option maxRecDepth 100000 in
set_option maxHeartbeats 4000000 in
theorem vals_bo {w : World} {N slot : Nat} (h0 : 65530 ≤ N) (h1 : N ≤ 65540) (hbig : 65536 < N) (hs : slot < 4294967296) (hin : 1 ≤ slot) (HK : ∀ v, Below w.heap.size w v → Calls Try.prog 8 #[] v fun e w' => e = .returned (.bool true) ∧ Below v.heap.size v w') :
    Calls Try.prog 5 #[.int .i64 (N : Int), .int .u32 (slot : Int)] w fun e w' => e = .returned (.bool true) ∧ Below w.heap.size w w' := by
  have HNW := Lib.hid (lnew_any w)
  have HK0 := Lib.hid HK
  have HI := Lib.hid (And.intro h0 (And.intro h1 (And.intro hbig (And.intro hs hin))))
  have hmk := fun u => make_any (P := Try.prog) u 32 5 (.int .u8 0) 1 1 Try.underlying32 u8_info (N : Int) (by omega) (by omega) (by omega)
  simp only [Int.toNat_natCast, Nat.mul_one] at hmk
  have g1 : ¬ (N : Int) < 65530 := by omega
  have g2 : ¬ (65540 : Int) < (N : Int) := by omega
  have g3 : (65536 : Int) < (N : Int) := by omega
  have d1 : decide ((N : Int) < 65530) = false := decide_eq_false g1
  have d2 : decide ((65540 : Int) < (N : Int)) = false := decide_eq_false g2
  have d3 : decide ((65536 : Int) < (N : Int)) = true := decide_eq_true g3
  have d4 : decide (N < 65530) = false := decide_eq_false (by omega)
  have d5 : decide (65540 < N) = false := decide_eq_false (by omega)
  have d6 : decide (65536 < N) = true := decide_eq_true (by omega)
  have ws : IntKind.i64.wrap (slot : Int) = (slot : Int) := IntWalk.i64_in _ (by omega)
  clear h0 h1 hbig hs hin HK g1 g2 g3
  go_enter Try.func5, Try.ntmps5
  go_wp2_with fail
  refine HNW.out.mono ?_
  rintro e w1 ⟨o, rfl, hl⟩
  have L1 := Lib.hid hl
  clear hl HNW
  go_wp2_with fail
  refine (appends_ok (c := 0) L1.out (by omega) (by omega) ⟨#[97]⟩ key_a none 0 [] (by omega) ⟨rfl, by simp, Lib.BytesIn.nil _ _ _, Nat.zero_le _⟩ 0 1 (by omega)).mono ?_
  rintro e w2 ⟨rfl, hr⟩
  have L2 := Lib.hid hr.1
  clear hr L1
  go_upto_region 7 with fail
  have hb3 : Below w2.heap.size w2 (w2.alloc (.cells (madeCells #[Value.int .u8 0] N) 5)) := by go_grown
  have L3 := Lib.hid ((L2.out.below hb3).only (X' := fun k => k = w2.heap.size) fun k hk => .inr (by subst hk; exact ⟨Nat.le_refl _, by rw [World.size_alloc]; omega⟩))
  have Z3 := Lib.hid (made_bytes w2 N (by have := HI.out; omega))
  clear hb3 L2 hmk
  generalize w2.alloc (.cells (madeCells #[Value.int .u8 0] N) 5) = w3 at *
  generalize w2.heap.size = vb at *
  have HAP := Lib.hid (append_long L3.out ⟨#[98]⟩ key_b (some ⟨vb, 0, none⟩) N N _ (by have := HI.out; omega) (by have := HI.out; omega) Z3.out 0 2 (by omega))
  go_wp2_with fail
  refine HAP.out.mono ?_
  rintro e w4 ⟨rfl, hr⟩
  have L4 := Lib.hid hr.1
  have Z4 := Lib.hid (bytes_at Z3.out (hr.2.1 vb rfl))
  clear hr L3 Z3 HAP
  have HS1 := Lib.hid (set_long L4.out 0 (by have := HI.out; omega) (by have := HI.out; omega) (by omega) (some ⟨vb, 0, none⟩) N N (by have := HI.out; omega) 3)
  go_wp2_with fail
  refine HS1.out.mono ?_
  rintro e w5 ⟨rfl, hr⟩
  have L5 := Lib.hid hr.1
  have Z5 := Lib.hid (bytes_at Z4.out (hr.2.1 vb rfl))
  clear hr L4 Z4 HS1
  have HS2 := Lib.hid (set_none L5.out slot (by have := HI.out; omega) (by have := HI.out; omega) (some ⟨vb, 0, none⟩) N N 3)
  go_wp2_with fail
  refine HS2.out.mono ?_
  rintro e w6 ⟨rfl, rfl⟩
  have L6 := L5
  have HL := Lib.hid (llen_any L6.out)
  have HNB := Lib.hid L6.out.bl
  have gs1 : (1 : Int) ≤ (slot : Int) := by have := HI.out; omega
  have gs2 : decide ((1 : Int) ≤ (slot : Int)) = true := decide_eq_true (by have := HI.out; omega)
  have gs3 : decide (1 ≤ slot) = true := decide_eq_true (by have := HI.out; omega)
  have gs4 : decide (((1 : Nat) : Int) ≤ (slot : Int)) = true := decide_eq_true (by have := HI.out; omega)
  clear HS2 L5 Z5
  go_wp2_with fail
  refine HL.out.mono ?_
  rintro e w7 ⟨rfl, rfl⟩
  go_wp2_with fail
  refine HL.out.mono ?_
  rintro e w7 ⟨rfl, rfl⟩
  go_wp2_with fail
  refine (HK0.out _ HNB.out).mono ?_
  rintro e w9 ⟨rfl, b9⟩
  have B9 := Lib.hid (tr HNB.out b9)
  clear b9
  go_wp2_with fail
  exact bodyPost_ret (v := .bool true) (by simp [results, Try.results5, go_sem]) rfl ⟨rfl, B9.out⟩
set_option maxRecDepth 100000 in
set_option maxHeartbeats 4000000 in
theorem vals_si {w : World} {N slot : Nat} (h0 : 65530 ≤ N) (h1 : N ≤ 65540) (hbig : N ≤ 65536) (hs : slot < 4294967296) (hin : slot < 2) (HK : ∀ v, Below w.heap.size w v → Calls Try.prog 8 #[] v fun e w' => e = .returned (.bool true) ∧ Below v.heap.size v w') :
    Calls Try.prog 5 #[.int .i64 (N : Int), .int .u32 (slot : Int)] w fun e w' => e = .returned (.bool true) ∧ Below w.heap.size w w' := by
  have HNW := Lib.hid (lnew_any w)
  have HK0 := Lib.hid HK
  have HI := Lib.hid (And.intro h0 (And.intro h1 (And.intro hbig (And.intro hs hin))))
  have hmk := fun u => make_any (P := Try.prog) u 32 5 (.int .u8 0) 1 1 Try.underlying32 u8_info (N : Int) (by omega) (by omega) (by omega)
  simp only [Int.toNat_natCast, Nat.mul_one] at hmk
  have g1 : ¬ (N : Int) < 65530 := by omega
  have g2 : ¬ (65540 : Int) < (N : Int) := by omega
  have g3 : ¬ (65536 : Int) < (N : Int) := by omega
  have d1 : decide ((N : Int) < 65530) = false := decide_eq_false g1
  have d2 : decide ((65540 : Int) < (N : Int)) = false := decide_eq_false g2
  have d3 : decide ((65536 : Int) < (N : Int)) = false := decide_eq_false g3
  have d4 : decide (N < 65530) = false := decide_eq_false (by omega)
  have d5 : decide (65540 < N) = false := decide_eq_false (by omega)
  have d6 : decide (65536 < N) = false := decide_eq_false (by omega)
  have ws : IntKind.i64.wrap (slot : Int) = (slot : Int) := IntWalk.i64_in _ (by omega)
  clear h0 h1 hbig hs hin HK g1 g2 g3
  go_enter Try.func5, Try.ntmps5
  go_wp2_with fail
  refine HNW.out.mono ?_
  rintro e w1 ⟨o, rfl, hl⟩
  have L1 := Lib.hid hl
  clear hl HNW
  go_wp2_with fail
  refine (appends_ok (c := 0) L1.out (by omega) (by omega) ⟨#[97]⟩ key_a none 0 [] (by omega) ⟨rfl, by simp, Lib.BytesIn.nil _ _ _, Nat.zero_le _⟩ 0 1 (by omega)).mono ?_
  rintro e w2 ⟨rfl, hr⟩
  have L2 := Lib.hid hr.1
  clear hr L1
  go_upto_region 7 with fail
  have hb3 : Below w2.heap.size w2 (w2.alloc (.cells (madeCells #[Value.int .u8 0] N) 5)) := by go_grown
  have L3 := Lib.hid ((L2.out.below hb3).only (X' := fun k => k = w2.heap.size) fun k hk => .inr (by subst hk; exact ⟨Nat.le_refl _, by rw [World.size_alloc]; omega⟩))
  have Z3 := Lib.hid (made_bytes w2 N (by have := HI.out; omega))
  clear hb3 L2 hmk
  generalize w2.alloc (.cells (madeCells #[Value.int .u8 0] N) 5) = w3 at *
  generalize w2.heap.size = vb at *
  have HAP := Lib.hid (append_ok (c := N) L3.out (by omega) (by omega) ⟨#[98]⟩ key_b (some ⟨vb, 0, none⟩) N _ (by have := HI.out; omega) Z3.out 0 2 (by omega))
  go_wp2_with fail
  refine HAP.out.mono ?_
  rintro e w4 ⟨rfl, hr⟩
  have L4 := Lib.hid hr.1
  have Z4 := Lib.hid (bytes_at Z3.out (hr.2.1 vb rfl))
  clear hr L3 Z3 HAP
  have HS1 := Lib.hid (set_ok (c := N) L4.out 0 (by have := HI.out; omega) (by have := HI.out; omega) (by omega) (some ⟨vb, 0, none⟩) N _ (by have := HI.out; omega) Z4.out 3)
  go_wp2_with fail
  refine HS1.out.mono ?_
  rintro e w5 ⟨rfl, hr⟩
  have L5 := Lib.hid hr.1
  have Z5 := Lib.hid (bytes_at Z4.out (hr.2.1 vb rfl))
  clear hr L4 Z4 HS1
  have HS2 := Lib.hid (set_ok (c := N) L5.out slot (by have := HI.out; omega) (by have := HI.out; omega) (by omega) (some ⟨vb, 0, none⟩) N _ (by have := HI.out; omega) Z5.out 3)
  go_wp2_with fail
  refine HS2.out.mono ?_
  rintro e w6 ⟨rfl, hr⟩
  have L6 := Lib.hid hr.1
  clear hr
  have HL := Lib.hid (llen_any L6.out)
  have HNB := Lib.hid L6.out.bl
  have gs1 : ¬ (2 : Int) ≤ (slot : Int) := by have := HI.out; omega
  have gs2 : decide ((2 : Int) ≤ (slot : Int)) = false := decide_eq_false (by have := HI.out; omega)
  have gs3 : decide (2 ≤ slot) = false := decide_eq_false (by have := HI.out; omega)
  have gs4 : decide (((2 : Nat) : Int) ≤ (slot : Int)) = false := decide_eq_false (by have := HI.out; omega)
  clear HS2 L5 Z5
  go_wp2_with fail
  refine HL.out.mono ?_
  rintro e w7 ⟨rfl, rfl⟩
  go_wp2_with fail
  refine HL.out.mono ?_
  rintro e w7 ⟨rfl, rfl⟩
  go_wp2_with fail
  refine (HK0.out _ HNB.out).mono ?_
  rintro e w9 ⟨rfl, b9⟩
  have B9 := Lib.hid (tr HNB.out b9)
  clear b9
  go_wp2_with fail
  exact bodyPost_ret (v := .bool true) (by simp [results, Try.results5, go_sem]) rfl ⟨rfl, B9.out⟩
set_option maxRecDepth 100000 in
set_option maxHeartbeats 4000000 in
theorem vals_so {w : World} {N slot : Nat} (h0 : 65530 ≤ N) (h1 : N ≤ 65540) (hbig : N ≤ 65536) (hs : slot < 4294967296) (hin : 2 ≤ slot) (HK : ∀ v, Below w.heap.size w v → Calls Try.prog 8 #[] v fun e w' => e = .returned (.bool true) ∧ Below v.heap.size v w') :
    Calls Try.prog 5 #[.int .i64 (N : Int), .int .u32 (slot : Int)] w fun e w' => e = .returned (.bool true) ∧ Below w.heap.size w w' := by
  have HNW := Lib.hid (lnew_any w)
  have HK0 := Lib.hid HK
  have HI := Lib.hid (And.intro h0 (And.intro h1 (And.intro hbig (And.intro hs hin))))
  have hmk := fun u => make_any (P := Try.prog) u 32 5 (.int .u8 0) 1 1 Try.underlying32 u8_info (N : Int) (by omega) (by omega) (by omega)
  simp only [Int.toNat_natCast, Nat.mul_one] at hmk
  have g1 : ¬ (N : Int) < 65530 := by omega
  have g2 : ¬ (65540 : Int) < (N : Int) := by omega
  have g3 : ¬ (65536 : Int) < (N : Int) := by omega
  have d1 : decide ((N : Int) < 65530) = false := decide_eq_false g1
  have d2 : decide ((65540 : Int) < (N : Int)) = false := decide_eq_false g2
  have d3 : decide ((65536 : Int) < (N : Int)) = false := decide_eq_false g3
  have d4 : decide (N < 65530) = false := decide_eq_false (by omega)
  have d5 : decide (65540 < N) = false := decide_eq_false (by omega)
  have d6 : decide (65536 < N) = false := decide_eq_false (by omega)
  have ws : IntKind.i64.wrap (slot : Int) = (slot : Int) := IntWalk.i64_in _ (by omega)
  clear h0 h1 hbig hs hin HK g1 g2 g3
  go_enter Try.func5, Try.ntmps5
  go_wp2_with fail
  refine HNW.out.mono ?_
  rintro e w1 ⟨o, rfl, hl⟩
  have L1 := Lib.hid hl
  clear hl HNW
  go_wp2_with fail
  refine (appends_ok (c := 0) L1.out (by omega) (by omega) ⟨#[97]⟩ key_a none 0 [] (by omega) ⟨rfl, by simp, Lib.BytesIn.nil _ _ _, Nat.zero_le _⟩ 0 1 (by omega)).mono ?_
  rintro e w2 ⟨rfl, hr⟩
  have L2 := Lib.hid hr.1
  clear hr L1
  go_upto_region 7 with fail
  have hb3 : Below w2.heap.size w2 (w2.alloc (.cells (madeCells #[Value.int .u8 0] N) 5)) := by go_grown
  have L3 := Lib.hid ((L2.out.below hb3).only (X' := fun k => k = w2.heap.size) fun k hk => .inr (by subst hk; exact ⟨Nat.le_refl _, by rw [World.size_alloc]; omega⟩))
  have Z3 := Lib.hid (made_bytes w2 N (by have := HI.out; omega))
  clear hb3 L2 hmk
  generalize w2.alloc (.cells (madeCells #[Value.int .u8 0] N) 5) = w3 at *
  generalize w2.heap.size = vb at *
  have HAP := Lib.hid (append_ok (c := N) L3.out (by omega) (by omega) ⟨#[98]⟩ key_b (some ⟨vb, 0, none⟩) N _ (by have := HI.out; omega) Z3.out 0 2 (by omega))
  go_wp2_with fail
  refine HAP.out.mono ?_
  rintro e w4 ⟨rfl, hr⟩
  have L4 := Lib.hid hr.1
  have Z4 := Lib.hid (bytes_at Z3.out (hr.2.1 vb rfl))
  clear hr L3 Z3 HAP
  have HS1 := Lib.hid (set_ok (c := N) L4.out 0 (by have := HI.out; omega) (by have := HI.out; omega) (by omega) (some ⟨vb, 0, none⟩) N _ (by have := HI.out; omega) Z4.out 3)
  go_wp2_with fail
  refine HS1.out.mono ?_
  rintro e w5 ⟨rfl, hr⟩
  have L5 := Lib.hid hr.1
  have Z5 := Lib.hid (bytes_at Z4.out (hr.2.1 vb rfl))
  clear hr L4 Z4 HS1
  have HS2 := Lib.hid (set_none L5.out slot (by have := HI.out; omega) (by have := HI.out; omega) (some ⟨vb, 0, none⟩) N N 3)
  go_wp2_with fail
  refine HS2.out.mono ?_
  rintro e w6 ⟨rfl, rfl⟩
  have L6 := L5
  have HL := Lib.hid (llen_any L6.out)
  have HNB := Lib.hid L6.out.bl
  have gs1 : (2 : Int) ≤ (slot : Int) := by have := HI.out; omega
  have gs2 : decide ((2 : Int) ≤ (slot : Int)) = true := decide_eq_true (by have := HI.out; omega)
  have gs3 : decide (2 ≤ slot) = true := decide_eq_true (by have := HI.out; omega)
  have gs4 : decide (((2 : Nat) : Int) ≤ (slot : Int)) = true := decide_eq_true (by have := HI.out; omega)
  clear HS2 L5 Z5
  go_wp2_with fail
  refine HL.out.mono ?_
  rintro e w7 ⟨rfl, rfl⟩
  go_wp2_with fail
  refine HL.out.mono ?_
  rintro e w7 ⟨rfl, rfl⟩
  go_wp2_with fail
  refine (HK0.out _ HNB.out).mono ?_
  rintro e w9 ⟨rfl, b9⟩
  have B9 := Lib.hid (tr HNB.out b9)
  clear b9
  go_wp2_with fail
  exact bodyPost_ret (v := .bool true) (by simp [results, Try.results5, go_sem]) rfl ⟨rfl, B9.out⟩
set_option maxRecDepth 100000 in
theorem vals_far {w : World} {n : Int} {slot : Nat} (hc : ¬ (65530 ≤ n ∧ n ≤ 65540)) (HK : ∀ v, Below w.heap.size w v → Calls Try.prog 8 #[] v fun e w' => e = .returned (.bool true) ∧ Below v.heap.size v w') :
    Calls Try.prog 5 #[.int .i64 n, .int .u32 (slot : Int)] w fun e w' => e = .returned (.bool true) ∧ Below w.heap.size w w' := by
  have HKN := Lib.hid (HK w (Below.refl _ _))
  have hd : n < 65530 ∨ (¬ n < 65530 ∧ 65540 < n) := by omega
  clear hc HK
  rcases hd with h1 | ⟨h1, h2⟩
  · have d1 : decide (n < 65530) = true := decide_eq_true h1
    go_enter Try.func5, Try.ntmps5
    go_wp2_with fail
    refine HKN.out.mono ?_
    rintro e u ⟨rfl, bl⟩
    go_wp2_with fail
    exact bodyPost_ret (v := .bool true) (by simp [results, Try.results5, go_sem]) rfl ⟨rfl, bl⟩
  · have d1 : decide (n < 65530) = false := decide_eq_false h1
    have d2 : decide (65540 < n) = true := decide_eq_true h2
    go_enter Try.func5, Try.ntmps5
    go_wp2_with fail
    refine HKN.out.mono ?_
    rintro e u ⟨rfl, bl⟩
    go_wp2_with fail
    exact bodyPost_ret (v := .bool true) (by simp [results, Try.results5, go_sem]) rfl ⟨rfl, bl⟩
theorem lvalues {w : World} {n : Int} {slot : Nat} (hs : slot < 4294967296) (HK : ∀ v, Below w.heap.size w v → Calls Try.prog 8 #[] v fun e w' => e = .returned (.bool true) ∧ Below v.heap.size v w') :
    Calls Try.prog 5 #[.int .i64 n, .int .u32 (slot : Int)] w fun e w' => e = .returned (.bool true) ∧ Below w.heap.size w w' := by
  by_cases hc : 65530 ≤ n ∧ n ≤ 65540
  · obtain ⟨N, rfl⟩ := Int.eq_ofNat_of_zero_le (show 0 ≤ n by omega)
    by_cases hbig : 65536 < N
    · by_cases hin : slot < 1
      · exact vals_bi (by omega) (by omega) hbig hs hin HK
      · exact vals_bo (by omega) (by omega) hbig hs (by omega) HK
    · by_cases hin : slot < 2
      · exact vals_si (by omega) (by omega) (by omega) hs hin HK
      · exact vals_so (by omega) (by omega) (by omega) hs (by omega) HK
  · exact vals_far hc HK
end Go.Proofs.Ytdhdaknfmpfegaa.Elg
