/-
  Ratios of package report (layer 52): decimal texts.
-/
import Derived.Test.YtjkjcmhlbimeaaaDoorNumV
set_option linter.unusedVariables false
set_option linter.unusedSimpArgs false
namespace Go.Proofs.YtjkjcmhlbimeaaaDoor.Num
open Go.RowKit Kit Go.Sort
theorem itoa_any (u : Nat) (hu : u < 9223372036854775808) (w : World) (htab : Tabs w) :
    Calls Tryd.prog 48 #[.int .i64 (u : Int)] w fun e w' => e = .returned (.string (dec u)) ∧ Below w.heap.size w w' := by
  refine (Tryd.strconv_Itoa (u : Int) (by omega) (by omega) w htab).mono ?_
  rintro e w' ⟨rfl, k, os, rfl⟩
  rw [Lib.itoa_nonneg]
  exact ⟨rfl, Lib.below_grow _ w (Nat.le_refl _) k os⟩
theorem dec_cat (u : Nat) (h : ¬ u < 10) : dec (u / 10) ++ dec (u % 10) = dec u := by
  have h1 : u % 10 < 10 := Nat.mod_lt _ (by decide)
  have e : Lib.decDigits u = Lib.decDigits (u / 10) ++ Lib.decDigits (u % 10) := by
    rw [Lib.decDigits_one h1]
    conv => lhs; rw [Lib.decDigits]
    rw [dif_neg h]
  apply ByteArray.ext
  show _ = (Lib.decDigits u).toArray
  rw [e]
  simp [dec]
theorem dec_size (u : Nat) (hu : u < 9223372036854775808) : (dec u).size ≤ 20 := by
  show (Lib.decDigits u).toArray.size ≤ 20
  simp only [List.size_toArray]
  rw [Lib.decDigits_length]
  by_cases h1 : 1 ≤ u
  · have := Lib.numDigits_eq u h1 (by omega); split at this <;> omega
  · rw [show u = 0 by omega, Lib.nDigits_small (by omega)]; omega
set_option maxRecDepth 100000 in
set_option maxHeartbeats 400000 in
theorem decimal_any (u : Nat) : u < 9223372036854775808 → ∀ w, Calls Tryd.prog 34 #[.int .i64 (u : Int)] w fun e w' => e = .returned (.string (dec u)) ∧ Below w.heap.size w w' := by
  induction u using Nat.strongRecOn with
  | _ u ih =>
    intro hu w
    have hcv : ∀ (W : World) (cap : Nat) (N : Nat) (d : Nat) (hd : d < 10) (hc : W.cell? ⟨N, 0, none⟩ = some (.int .u8 (48 + (d : Int)))), (convert 112 9 (.slice (some ⟨N, 0, none⟩) 1 cap)).run Tryd.prog W = .ok (.string (dec d)) W := fun W cap N d hd hc => by
      have h1 : Lib.decDigits d = [UInt8.ofNat (48 + d)] := Lib.decDigits_one hd
      have h := run_convert_bytes_back (P := Tryd.prog) W 112 9 5 ⟨N, 0, none⟩ cap (Lib.decDigits d) Tryd.underlying112 Tryd.underlying5 Tryd.underlying9 (fun j hj => by
        rw [h1] at hj
        simp at hj
        subst hj
        have e : (UInt8.ofNat (48 + d)).toNat = 48 + d := by rw [UInt8.toNat_ofNat']; omega
        simp only [h1, List.getElem_cons_zero, e]
        exact hc)
      rw [show (Lib.decDigits d).length = 1 by rw [h1]; rfl] at h
      exact h
    have hcw : ∀ (W : World), (convert 112 9 (.slice (some ⟨W.heap.size, 0, none⟩) 1 1)).run Tryd.prog (W.alloc (.cells #[.int .u8 (48 + (u : Int) % 10)] 5)) = .ok (.string (dec (u % 10))) (W.alloc (.cells #[.int .u8 (48 + (u : Int) % 10)] 5)) := fun W => by
      refine hcv _ 1 W.heap.size (u % 10) (by omega) ?_
      rw [show ((u % 10 : Nat) : Int) = (u : Int) % 10 by omega, World.cell?_alloc_new]
      rfl
    have hcb : ∀ (W w1 : World) (hb : Below (W.alloc (.cells #[.int .u8 (48 + (u : Int) % 10)] 5)).heap.size (W.alloc (.cells #[.int .u8 (48 + (u : Int) % 10)] 5)) w1), (convert 112 9 (.slice (some ⟨W.heap.size, 0, none⟩) 1 1)).run Tryd.prog w1 = .ok (.string (dec (u % 10))) w1 := fun W w1 hb => by
      refine hcv _ 1 W.heap.size (u % 10) (by omega) ?_
      rw [show ((u % 10 : Nat) : Int) = (u : Int) % 10 by omega, hb.cell (show W.heap.size < (W.heap.push _).size by rw [Array.size_push]; omega), World.cell?_alloc_new]
      rfl
    clear hcv
    by_cases h : u < 10
    · have h' : (u : Int) < 10 := by omega
      have h2 : u % 10 = u := by omega
      rw [h2] at hcw
      clear ih h2 h hcb
      have HW := Lib.hid hcw
      clear hcw
      go_enter Tryd.func34, Tryd.ntmps34
      go_wp2_with fail
      rw [HW.out]
      go_simp
      go_wp2_with fail
      go_ret
      exact ⟨rfl, (Below.refl _ _).alloc (Nat.le_refl _) _⟩
    · have hi := ih (u / 10) (by omega) (by omega)
      rw [show (((u / 10 : Nat)) : Int) = (u : Int) / 10 from by omega] at hi
      have HI := Lib.hid hi
      have HC := Lib.hid (dec_cat u h)
      have hl3 : ¬ 9223372036854775807 < (dec (u / 10)).size + (dec (u % 10)).size := by
        rw [← ByteArray.size_append, dec_cat u h]
        have := dec_size u hu
        omega
      have h' : ¬ (u : Int) < 10 := by omega
      generalize dec (u / 10) = a at *
      generalize dec (u % 10) = b at *
      generalize dec u = c at *
      clear hi ih h
      go_enter Tryd.func34, Tryd.ntmps34
      have HB := Lib.hid hcb
      have s2 : (u : Int).tmod 10 = (u : Int) % 10 := Int.tmod_eq_emod_of_nonneg (by omega)
      have s1 := IntWalk.i64_in ((u : Int) / 10) (by omega)
      have s3 := IntWalk.i64_in (48 + (u : Int) % 10) (by omega)
      have s4 := IntWalk.u8_in (48 + (u : Int) % 10) (by omega)
      have hh : ¬ (u : Int) < 10 := h'
      have HX := Lib.hid (show (∀ w1, Below w.drew.heap.size w.drew w1 → Below w.heap.size w w1) ∧ (∀ w1, Below ((w.alloc (.cells #[.int .u8 (48 + (u : Int) % 10)] 5)).drew).heap.size ((w.alloc (.cells #[.int .u8 (48 + (u : Int) % 10)] 5)).drew) w1 → Below w.heap.size w w1) from
        ⟨fun w1 h => (Below.drew (Below.refl w.heap.size w)).trans h, fun w1 h => (((Below.refl w.heap.size w).alloc (Nat.le_refl _) _).drew).trans (h.mono (show w.heap.size ≤ (w.heap.push _).size by rw [Array.size_push]; omega))⟩)
      have hcd : (convert 112 9 (.slice (some ⟨w.heap.size, 0, none⟩) 1 1)).run Tryd.prog ((w.alloc (.cells #[.int .u8 (48 + (u : Int) % 10)] 5)).drew) = .ok (.string b) ((w.alloc (.cells #[.int .u8 (48 + (u : Int) % 10)] 5)).drew) := hcw w.drew
      clear hcb
      go_wp2_with fail
      go_region_with (first | (go_at_call 34; refine (HI.out _).mono ?_; rintro e w1 ⟨rfl, hb⟩; try (have hq : (convert 112 9 (.slice (some ⟨w.heap.size, 0, none⟩) 1 1)).run Tryd.prog w1 = .ok (.string b) w1 := HB.out w.drew w1 hb)))
      all_goals (go_wp2_with fail; go_ret; first | exact ⟨by rw [← HC.out]; rfl, HX.out.2 _ hb⟩ | exact ⟨by rw [← HC.out]; rfl, (HX.out.1 _ hb).alloc (HX.out.1 _ hb).size _⟩)
/-- the greatest divisor -/
theorem divisor_any (b : Nat) : ∀ a : Nat, a < 9223372036854775808 → b < 9223372036854775808 → ∀ w, Calls Tryd.prog 119 #[.int .i64 (a : Int), .int .i64 (b : Int)] w fun e w' => e = .returned (.int .i64 (Nat.gcd a b : Nat)) ∧ w = w' := by
  induction b using Nat.strongRecOn with
  | _ b ih =>
    intro a ha hb w
    by_cases h : b = 0
    · subst h
      rw [Nat.gcd_zero_right]
      clear ih
      go_enter Tryd.func119, Tryd.ntmps119
      go_wp2
      go_ret
      exact ⟨rfl, rfl⟩
    · have hi := ih (a % b) (Nat.mod_lt _ (by omega)) b hb (by have := Nat.mod_lt a (show 0 < b by omega); omega)
      rw [show Nat.gcd b (a % b) = Nat.gcd a b by rw [Nat.gcd_comm b, ← Nat.gcd_rec, Nat.gcd_comm]] at hi
      rw [Int.natCast_emod] at hi
      have HI := Lib.hid hi
      have hb0 : ((b : Int) == 0) = false := by rw [beq_eq_false_iff_ne]; omega
      have hb1 : ¬ (b : Int) = 0 := by omega
      have hb2 : (0 : Int) < (b : Int) := by omega
      have ha0 : (0 : Int) ≤ (a : Int) := by omega
      generalize Nat.gcd a b = g at *
      clear hi ih h
      go_enter Tryd.func119, Tryd.ntmps119
      go_wp2_with (first | (go_at_call 119; refine (HI.out _).mono ?_; rintro e w1 ⟨rfl, rfl⟩))
      go_ret
      exact ⟨rfl, rfl⟩
end Go.Proofs.YtjkjcmhlbimeaaaDoor.Num
