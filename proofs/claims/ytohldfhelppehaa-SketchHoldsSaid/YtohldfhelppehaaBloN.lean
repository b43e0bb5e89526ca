/-
  Walks over the reference of layer 34: keys that are there, keys that are added.
-/
import Derived.Test.YtohldfhelppehaaBloO
import Derived.Deep.RegionHeld3
import Derived.Deep.AppendLies
set_option linter.unusedVariables false
set_option linter.unusedSimpArgs false
namespace Go.Proofs.Ytohldfhelppehaa.Blo
open Go.RowKit Kit Hash
theorem pls_get (x m h j : Nat) (hj : j < h) (d : Value) : ((pls x m h).map fun x => Value.int .i64 (x : Nat)).getD j d = .int .i64 (pl x m j : Nat) := by
  simp [List.getD, pls, hj]
/-- the places as a row -/
theorem pls_row {w : World} {B h : Nat} {v : Value} {x m : Nat} (hown : w.ownsRow B 3 1 v h ((pls x m h).map fun x => .int .i64 (x : Nat))) (hh : 1 ≤ h) :
    ∃ g c, v = .slice (some ⟨g, 0, none⟩) h c ∧ B ≤ g ∧ Row w g h 3 (fun i => .int .i64 (pl x m i : Nat)) := by
  rcases own_row hown (by simp [pls_length]) with ⟨-, h0⟩ | ⟨g, c, hv, hg, -, -, hr⟩
  · omega
  · exact ⟨g, c, hv, hg, hr.congr fun i hi => by rw [pls_get x m h i hi]⟩
set_option maxRecDepth 100000 in
theorem rhasR {W : World} {r n c : Nat} {hs sd : Int} {s : Nat → Bool} (h : Rr W r (64 * n) s) (ok : Ok n hs sd) (k : ByteArray) (hk : k.size ≤ maxLen) :
    Calls Try.prog 50 #[rf hs sd r (64 * n) c, .string k] W fun e w' => e = .returned (.bool ((pls (sumN sd k) (64 * n) hs.toNat).all s)) ∧ Below W.heap.size W w' := by
  have HP := Lib.hid (fun w => rplacesR (W := w) (r := r) (c := c) ok k hk)
  have HR := Lib.hid h
  have h1 := ok.h1
  have h2 := ok.h2
  have n1 := ok.n1
  have n2 := ok.n2
  clear ok h
  go_enter Try.func50, Try.ntmps50
  go_wp2_with fail
  refine (HP.out _).mono ?_
  rintro e w1 ⟨v, rfl, hown, b1⟩
  obtain ⟨g, cg, hv, hg, hrow⟩ := pls_row hown (by omega)
  subst hv
  have B1 := Lib.hid (show Below (W.heap.size + 1) (W.alloc (rfO hs sd r (64 * n) c)) w1 from by simpa [World.size_alloc] using b1)
  have HROW := Lib.hid hrow
  clear hown hrow b1
  generalize hx : sumN sd k = x at *
  have HX := Lib.hid hx
  clear hx
  go_wp2_with fail
  go_loopw [6] (fun i wr => ∃ j : Nat, j ≤ hs.toNat ∧ i = .int .i64 j ∧ (pls x (64 * n) j).all s = true ∧ Below w1.heap.size w1 wr) (fun i _ => hs.toNat - (intOf i).toNat)
  case atStart => exact ⟨0, by omega, rfl, rfl, Below.refl _ _⟩
  case round =>
    obtain ⟨j, hj, rfl, hall, b2⟩ := hrel
    have B2 := Lib.hid (B1.out.trans (b2.mono (by have := B1.out.size; rw [World.size_alloc] at this; omega)))
    have hrow2 := HROW.out.below b2
    have BR := Lib.hid b2
    clear b2
    obtain ⟨-, -, c2⟩ := rf_cells B2.out
    by_cases hlt : j < hs.toNat
    · have kg := hrow2.cell j hlt
      clear hrow2
      have hlp : pl x (64 * n) j < 64 * n := pl_lt (by omega)
      have kr := (HR.out.below (rf_below B2.out)).cell (pl x (64 * n) j) hlp
      have HPS := Lib.hid (pls_succ x (64 * n) j)
      have HALL := Lib.hid hall
      clear hall
      have HFA := Lib.hid (fun (h0 : s (pl x (64 * n) j) = false) => show (pls x (64 * n) hs.toNat).all s = false from by
        rw [List.all_eq_false]
        exact ⟨pl x (64 * n) j, List.mem_map.2 ⟨j, List.mem_range.2 hlt, rfl⟩, by simp [h0]⟩)
      cases hs0 : s (pl x (64 * n) j)
      · rw [hs0] at kr
        have HF := Lib.hid (HFA.out hs0)
        clear HFA HPS HALL
        generalize pl x (64 * n) j = z at *
        have hz : z < 64 * n := hlp
        go_wp2_with fail
        go_quiet (fail)
        go_wp2_with fail
        go_ret
        exact ⟨ret_bool (by rw [HX.out, HF.out]), below_drewN (rf_below B2.out) _⟩
      · rw [hs0] at kr
        have HT := Lib.hid (show (pls x (64 * n) (j + 1)).all s = true by rw [HPS.out, List.all_append, HALL.out]; simp [hs0])
        clear HFA HPS HALL
        generalize pl x (64 * n) j = z at *
        go_wp2_with fail
        go_quiet (fail)
        go_wp2_with fail
        go_roundw
        case rel => exact ⟨j + 1, by omega, by go_num, HT.out, below_drewN BR.out _⟩
        case measure => simp [intOf] <;> omega
    · obtain rfl : j = hs.toNat := by omega
      go_wp2_with fail
      go_ret
      exact ⟨ret_bool (by rw [HX.out, hall]), rf_below B2.out⟩
end Go.Proofs.Ytohldfhelppehaa.Blo
