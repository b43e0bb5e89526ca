/-
  Configurations (layer 23): decimal texts of the reference; the table of powers.
-/
import Derived.Test.YtckibgpmncggaaaDoorCfgB
import Derived.Test.YtckibgpmncggaaaDoorShelf
import Derived.Shelf.Strconv.Itoa3
import Derived.Lib.ItoaMem
import Derived.Lib.AppendIntMem
import Derived.Lib.SmallJoins
import Derived.Lib.ConvBytes
import Derived.Carry
import Derived.Test.YtckibgpmncggaaaDoorLaid
set_option linter.unusedVariables false
set_option linter.unusedSimpArgs false
namespace Go.Proofs.YtckibgpmncggaaaDoor.Cfg
open Go Go.RowKit Kit Go.Sort
/-- the table of powers -/
def Tabs (w : World) : Prop := Lib.TabIs Tryd.prog w "internal/strconv.uint64pow10" .u64 Lib.pow10Tab
theorem Tabs.below {w w' : World} (h : Tabs w) (hb : Below w.heap.size w w') : Tabs w' :=
  Go.Joins.tab_stays (g := 1) (by kernel_rfl) h hb (Nat.le_refl _)
def str (l : List UInt8) : ByteArray := ⟨l.toArray⟩
theorem str_append (a b : List UInt8) : str (a ++ b) = str a ++ str b := by
  apply ByteArray.ext
  simp [str]
theorem str_size (a : List UInt8) : (str a).size = a.length := by simp [str, ByteArray.size]
/-- the decimal text of a number -/
def dec (u : Nat) : ByteArray := str (Lib.decDigits u)
theorem dec_cat (u : Nat) (h : ¬ u < 10) : dec (u / 10) ++ dec (u % 10) = dec u := by
  have h1 : u % 10 < 10 := Nat.mod_lt _ (by decide)
  have e : Lib.decDigits u = Lib.decDigits (u / 10) ++ Lib.decDigits (u % 10) := by
    rw [Lib.decDigits_one h1]
    conv => lhs; rw [Lib.decDigits]
    rw [dif_neg h]
  unfold dec
  rw [← str_append, ← e]
theorem dig_len (u : Nat) (hu : u < 18446744073709551616) : (Lib.decDigits u).length ≤ 20 := by
  rw [Lib.decDigits_length]
  by_cases h1 : 1 ≤ u
  · have := Lib.numDigits_eq u h1 (by omega); split at this <;> omega
  · rw [show u = 0 by omega, Lib.nDigits_small (by omega)]; omega
theorem dec_size (u : Nat) (hu : u < 18446744073709551616) : (dec u).size ≤ 20 := by
  unfold dec
  rw [str_size]
  exact dig_len u hu
set_option maxRecDepth 100000 in
set_option maxHeartbeats 400000 in
theorem decimal_any (u : Nat) : u < 18446744073709551616 → ∀ w, Calls Tryd.prog 40 #[.int .u64 (u : Int)] w fun e w' => e = .returned (.string (dec u)) ∧ Below w.heap.size w w' := by
  induction u using Nat.strongRecOn with
  | _ u ih =>
    intro hu w
    have hcv : ∀ (W : World) (cap : Nat) (N : Nat) (d : Nat) (hd : d < 10) (hc : W.cell? ⟨N, 0, none⟩ = some (.int .u8 (48 + (d : Int)))), (convert 43 9 (.slice (some ⟨N, 0, none⟩) 1 cap)).run Tryd.prog W = .ok (.string (dec d)) W := fun W cap N d hd hc => by
      have h1 : Lib.decDigits d = [UInt8.ofNat (48 + d)] := Lib.decDigits_one hd
      have h := run_convert_bytes_back (P := Tryd.prog) W 43 9 5 ⟨N, 0, none⟩ cap (Lib.decDigits d) Tryd.underlying43 Tryd.underlying5 Tryd.underlying9 (fun j hj => by
        rw [h1] at hj
        simp at hj
        subst hj
        have e : (UInt8.ofNat (48 + d)).toNat = 48 + d := by rw [UInt8.toNat_ofNat']; omega
        simp only [h1, List.getElem_cons_zero, e]
        exact hc)
      rw [show (Lib.decDigits d).length = 1 by rw [h1]; rfl] at h
      exact h
    have hcw : ∀ (W : World), (convert 43 9 (.slice (some ⟨W.heap.size, 0, none⟩) 1 1)).run Tryd.prog (W.alloc (.cells #[.int .u8 (48 + (u : Int) % 10)] 5)) = .ok (.string (dec (u % 10))) (W.alloc (.cells #[.int .u8 (48 + (u : Int) % 10)] 5)) := fun W => by
      refine hcv _ 1 W.heap.size (u % 10) (by omega) ?_
      rw [show ((u % 10 : Nat) : Int) = (u : Int) % 10 by omega, World.cell?_alloc_new]
      rfl
    have hcb : ∀ (W w1 : World) (hb : Below (W.alloc (.cells #[.int .u8 (48 + (u : Int) % 10)] 5)).heap.size (W.alloc (.cells #[.int .u8 (48 + (u : Int) % 10)] 5)) w1), (convert 43 9 (.slice (some ⟨W.heap.size, 0, none⟩) 1 1)).run Tryd.prog w1 = .ok (.string (dec (u % 10))) w1 := fun W w1 hb => by
      refine hcv _ 1 W.heap.size (u % 10) (by omega) ?_
      rw [show ((u % 10 : Nat) : Int) = (u : Int) % 10 by omega, hb.cell (show W.heap.size < (W.heap.push _).size by rw [Array.size_push]; omega), World.cell?_alloc_new]
      rfl
    clear hcv
    by_cases h : u < 10
    · have h' : (u : Int) < 10 := by omega
      have h2 : u % 10 = u := by omega
      have h3 : (u : Int) % 10 = (u : Int) := by omega
      have s4 := IntWalk.u8_in (48 + (u : Int)) (by omega)
      have s3 : IntKind.u64.wrap (48 + (u : Int)) = 48 + (u : Int) := wrap64u _ (by omega) (by omega)
      rw [h2, h3] at hcw
      clear ih h2 h hcb h3
      have HW := Lib.hid hcw
      clear hcw
      go_enter Tryd.func40, Tryd.ntmps40
      go_wp2_with fail
      rw [HW.out]
      go_simp
      go_wp2_with fail
      go_ret
      exact ⟨rfl, (Below.refl _ _).alloc (Nat.le_refl _) _⟩
    · have hi := ih (u / 10) (by omega) (by omega)
      rw [show (((u / 10 : Nat)) : Int) = (u : Int) / 10 from by omega] at hi
      have HI := Lib.hid hi
      have HC := Lib.hid (dec_cat u h)
      have hl3 : ¬ 9223372036854775807 < (dec (u / 10)).size + (dec (u % 10)).size := by
        rw [← ByteArray.size_append, dec_cat u h]
        have := dec_size u hu
        omega
      have h' : ¬ (u : Int) < 10 := by omega
      generalize dec (u / 10) = a at *
      generalize dec (u % 10) = b at *
      generalize dec u = c at *
      clear hi ih h
      go_enter Tryd.func40, Tryd.ntmps40
      have HB := Lib.hid hcb
      have s2 : (u : Int).tmod 10 = (u : Int) % 10 := Int.tmod_eq_emod_of_nonneg (by omega)
      have s5 : (u : Int).tdiv 10 = (u : Int) / 10 := Int.tdiv_eq_ediv_of_nonneg (by omega)
      have s1 : IntKind.u64.wrap ((u : Int) / 10) = (u : Int) / 10 := wrap64u _ (by omega) (by omega)
      have s6 : IntKind.u64.wrap ((u : Int) % 10) = (u : Int) % 10 := wrap64u _ (by omega) (by omega)
      have s3 : IntKind.u64.wrap (48 + (u : Int) % 10) = 48 + (u : Int) % 10 := wrap64u _ (by omega) (by omega)
      have s4 := IntWalk.u8_in (48 + (u : Int) % 10) (by omega)
      have hh : ¬ (u : Int) < 10 := h'
      have HX := Lib.hid (show (∀ w1, Below w.drew.heap.size w.drew w1 → Below w.heap.size w w1) ∧ (∀ w1, Below ((w.alloc (.cells #[.int .u8 (48 + (u : Int) % 10)] 5)).drew).heap.size ((w.alloc (.cells #[.int .u8 (48 + (u : Int) % 10)] 5)).drew) w1 → Below w.heap.size w w1) from
        ⟨fun w1 h => (Below.drew (Below.refl w.heap.size w)).trans h, fun w1 h => (((Below.refl w.heap.size w).alloc (Nat.le_refl _) _).drew).trans (h.mono (show w.heap.size ≤ (w.heap.push _).size by rw [Array.size_push]; omega))⟩)
      have hcd : (convert 43 9 (.slice (some ⟨w.heap.size, 0, none⟩) 1 1)).run Tryd.prog ((w.alloc (.cells #[.int .u8 (48 + (u : Int) % 10)] 5)).drew) = .ok (.string b) ((w.alloc (.cells #[.int .u8 (48 + (u : Int) % 10)] 5)).drew) := hcw w.drew
      clear hcb
      go_wp2_with fail
      go_region_with (first | (go_at_call 40; refine (HI.out _).mono ?_; rintro e w1 ⟨rfl, hb⟩; try (have hq : (convert 43 9 (.slice (some ⟨w.heap.size, 0, none⟩) 1 1)).run Tryd.prog w1 = .ok (.string b) w1 := HB.out w.drew w1 hb)))
      all_goals (go_wp2_with fail; go_ret; first | exact ⟨by rw [← HC.out]; rfl, HX.out.2 _ hb⟩ | exact ⟨by rw [← HC.out]; rfl, (HX.out.1 _ hb).alloc (HX.out.1 _ hb).size _⟩)
theorem tab_at {P : Program} {W : World} {laid : List (String × DataW Unit)} (h : laidMet P laid W) (i : Nat) {name : String} {k : IntKind} {zs : List Int} {g : Nat} {t e : TypeId} {n : Nat} (hm : laid[i]? = some (name, Lib.tabData k zs))
    (hg : P.globalNamed name = some g) (hty : (P.globals[g]?).map (·.type) = some t) (ht : P.underlying t = some (.array n e)) (he : P.underlying e = some (.int k)) (hce : P.cellsOf e = 1) (hct : P.cellsOf t = n) : Lib.TabIs P W name k zs := by
  obtain ⟨ps, hl, -⟩ := h
  obtain ⟨g', t', cs, fuel, p, e1, e2, hvar, hd⟩ := Ev.laidVars_get hl hm
  obtain rfl := Option.some.inj (hg.symm.trans e1)
  obtain rfl := Option.some.inj (hty.symm.trans e2)
  unfold Lib.TabIs
  rw [hvar, ← Lib.cells_of_tab ht he hce hct hd]
theorem tabs_of {W : World} {laid : List (String × DataW Unit)} (h : laidMet Tryd.prog laid W) (i : Nat) (hm : laid[i]? = some ("internal/strconv.uint64pow10", Lib.tabData .u64 Lib.pow10Tab)) : Tabs W :=
  tab_at h i hm (g := 1) (by kernel_rfl) (t := 93) (by kernel_rfl) (e := 22) (n := 20) (by kernel_rfl) (by kernel_rfl) (by kernel_rfl) (by kernel_rfl)
end Go.Proofs.YtckibgpmncggaaaDoor.Cfg
