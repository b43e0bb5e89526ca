/-
  Entries (layer 4): the program's digits.
-/
import Derived.Test.YtlpepmhpnmnpkaaDoorEnpA
set_option linter.unusedVariables false
set_option linter.unusedSimpArgs false
namespace Go.Proofs.YtlpepmhpnmnpkaaDoor.Ent
open Go Go.RowKit Kit
def valsL : List Int := (List.range 103).map fun i => (dgt (UInt8.ofNat i) : Int)
/-- the table of the digits -/
def Vals (w : World) : Prop := Lib.TabIs Tryd.prog w "cubbyhole/entry.values" .u8 valsL
theorem Vals.at_ {w : World} (h : Vals w) (c : UInt8) (hc : c.toNat < 103) : w.cell? ⟨0, c.toNat, none⟩ = some (.int .u8 (dgt c : Int)) := by
  have h1 := Lib.TabIs.cell h (g := 0) (by kernel_rfl) c.toNat (by simpa [valsL] using hc)
  rw [h1]
  have : valsL.getD c.toNat 0 = (dgt c : Int) := by
    unfold valsL
    rw [List.getD_eq_getElem?_getD, List.getElem?_map, List.getElem?_range hc]
    simp
  rw [this]
theorem Vals.below {w w' : World} (h : Vals w) (hb : Below w.heap.size w w') : Vals w' := Go.Joins.tab_stays (g := 0) (by kernel_rfl) h hb (Nat.le_refl _)
theorem vals_of {W : World} {laid : List (String × DataW Unit)} (h : laidMet Tryd.prog laid W) (i : Nat) (hm : laid[i]? = some ("cubbyhole/entry.values", Lib.tabData .u8 valsL)) : Vals W :=
  Num.tab_at h i hm (g := 0) (by kernel_rfl) (t := 102) (by kernel_rfl) (e := 5) (n := 103) (by kernel_rfl) (by kernel_rfl) (by kernel_rfl) (by kernel_rfl)
set_option maxRecDepth 100000 in
theorem digit_any (c : UInt8) {w : World} (hv : Vals w) :
    Calls Tryd.prog 66 #[.int .u8 (c.toNat : Int)] w fun e w' => e = .returned (.int .u8 (dgt c : Int)) ∧ w = w' := by
  by_cases hc : c.toNat < 103
  · have h1 := hv.at_ c hc
    have hlt : (c.toNat : Int) < 103 := by omega
    have hlo : (0 : Int) ≤ (c.toNat : Int) := by omega
    have hn : ¬ (103 : Int) ≤ (c.toNat : Int) := by omega
    have wi := IntWalk.i64_in (c.toNat : Int) (by omega)
    generalize dgt c = d at *
    generalize c.toNat = n at *
    clear hv hc
    go_enter Tryd.func66, Tryd.ntmps66
    go_wp2_with fail
    go_ret
    exact ⟨rfl, rfl⟩
  · have hd : dgt c = 0 := by unfold dgt; rw [if_neg (by omega), if_neg (by omega)]
    rw [hd]
    have hn : (103 : Int) ≤ (c.toNat : Int) := by omega
    have hb := c.toNat_lt
    have wi := IntWalk.i64_in (c.toNat : Int) (by omega)
    generalize c.toNat = n at *
    clear hv hc
    go_enter Tryd.func66, Tryd.ntmps66
    go_wp2_with fail
    go_ret
    exact ⟨rfl, rfl⟩
end Go.Proofs.YtlpepmhpnmnpkaaDoor.Ent
