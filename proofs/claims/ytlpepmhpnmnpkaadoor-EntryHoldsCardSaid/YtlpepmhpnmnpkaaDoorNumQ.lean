/-
  FormatUint, Text and Parse of package tick (layer 3).
-/
import Derived.Test.YtlpepmhpnmnpkaaDoorShelf
import Derived.Test.YtlpepmhpnmnpkaaDoorKit
import Derived.Shelf.Strconv.Itoa3
import Derived.Lib.ItoaMem
import Derived.Lib.AppendIntMem
import Derived.Lib.SmallJoins
import Derived.Carry
import Derived.Test.YtlpepmhpnmnpkaaDoorLaid
set_option linter.unusedVariables false
set_option linter.unusedSimpArgs false
namespace Go.Proofs.YtlpepmhpnmnpkaaDoor.Num
open Go.RowKit Kit Go.Sort
/-- the table of powers -/
def Tabs (w : World) : Prop := Lib.TabIs Tryd.prog w "internal/strconv.uint64pow10" .u64 Lib.pow10Tab
theorem Tabs.below {w w' : World} (h : Tabs w) (hb : Below w.heap.size w w') : Tabs w' :=
  Go.Joins.tab_stays (g := 1) (by kernel_rfl) h hb (Nat.le_refl _)
/-- the decimal text of a number -/
def dec (u : Nat) : ByteArray := ⟨(Lib.decDigits u).toArray⟩
set_option maxHeartbeats 4000000 in
set_option maxRecDepth 100000 in
theorem format_any (u : Nat) (hu64 : u < 18446744073709551616) (w : World) (htab : Tabs w) :
    Calls Tryd.prog 60 #[.int .u64 (u : Int), .int .i64 10] w fun e w' => e = .returned (.string (dec u)) ∧ Below w.heap.size w w' := by
  by_cases hs : u < 100
  · have HS := Lib.hid (Tryd.internal_strconv_small u hs w)
    go_enter Tryd.func60, Tryd.ntmps60
    go_wp2_with fail
    refine HS.out.mono ?_
    rintro e w1 ⟨rfl, rfl⟩
    go_wp2_with fail
    go_ret
    exact ⟨rfl, Below.refl _ _⟩
  · have hu1 : 1 ≤ u := by omega
    have iu : (100 : Int) ≤ (u : Int) := by omega
    have hnd20 : Lib.nDigits u ≤ 20 := by have := Lib.numDigits_eq u hu1 hu64; split at this <;> omega
    have hal : Tryd.prog.arrayLen 92 = 24 := by kernel_rfl
    have hsl : ∀ W, (Instr.sliceAt 92 (.pointer (some ⟨w.heap.size, 0, none⟩)) none (some (.int .i64 (Lib.nDigits u : Int))) none).run Tryd.prog W = .ok (.slice (some ⟨w.heap.size, 0, none⟩) (Lib.nDigits u) 24) W := fun W => by
      rw [run_sliceAt_array_h W 92 ⟨w.heap.size, 0, none⟩ (by kernel_rfl) .i64 (Lib.nDigits u : Int) (by omega) (by rw [hal]; omega)]
      rw [show Tryd.prog.arrayLen 92 = 24 from hal]
      go_simp
    have hH0 := Lib.holds_zero0 w 92 (Lib.nDigits u) (by omega)
    have hfmt := Tryd.internal_strconv_formatBase10 w.heap.size 0 24 u (Array.replicate (Lib.nDigits u) 0) (w.alloc (.cells Lib.zeros24 92)) hH0 (by rw [Array.size_replicate]; exact Lib.lt_pow_nDigits u) hu64 (by rw [Array.size_replicate]; omega)
    rw [Array.size_replicate] at hfmt
    have HH0 := Lib.hid hH0
    have HN := Lib.hid fun (w' : World) (h : Tabs w') => Tryd.internal_strconv_numDigits u hu1 hu64 w' h
    have HT := Lib.hid htab
    clear htab hH0 hal
    go_enter Tryd.func60, Tryd.ntmps60
    go_wp2_with (first | (go_at_call 68; refine (HN.out _ (Lib.tabIs_alloc HT.out _)).mono ?_; rintro e w' ⟨rfl, rfl⟩))
    refine hfmt.mono ?_
    rintro e w' ⟨rfl, k, v', dk, rfl, hF⟩
    have hcells : ∀ j u', (Lib.byteCells (Lib.decDigits u))[j]? = some u' → ((putRow (fun (b : UInt8) => Value.int .u8 (b.toNat : Int)) (w.alloc (.cells Lib.zeros24 92)) w.heap.size 0 dk).drewN k).cell? ((⟨w.heap.size, 0, none⟩ : Addr).add j) = some u' := by
      intro j u' hj
      have hjl : j < (Lib.decDigits u).length := by
        have h5 := (List.getElem?_eq_some_iff.1 hj).1
        rwa [Lib.byteCells_length] at h5
      have e5 : (Lib.byteCells (Lib.decDigits u))[j]? = some (Value.int .u8 ((Lib.decDigits u)[j].toNat : Int)) := by simp [Lib.byteCells, hjl]
      rw [e5] at hj
      cases hj
      rw [Lib.row_is_numeral hF j hjl, Lib.add_plain, World.cell?_drewN]
      exact cell?_putRow (fun (b : UInt8) => Value.int .u8 (b.toNat : Int)) _ w.heap.size 0 _ dk HH0.out (by rw [hF.size, Array.size_replicate]) j (by rw [hF.size]; rw [Lib.decDigits_length] at hjl; exact hjl)
    obtain ⟨os, eo⟩ := Lib.fin_at w (.cells Lib.zeros24 92) dk k 0
    have hnx2 : Below w.heap.size w ((putRow (fun (b : UInt8) => Value.int .u8 (b.toNat : Int)) (w.alloc (.cells Lib.zeros24 92)) w.heap.size 0 dk).drewN k) := by rw [eo]; exact Lib.below_grow _ w (Nat.le_refl _) k os
    generalize (putRow (fun (b : UInt8) => Value.int .u8 (b.toNat : Int)) (w.alloc (.cells Lib.zeros24 92)) w.heap.size 0 dk).drewN k = W2 at hcells hnx2 ⊢
    clear eo HH0 hfmt HN HT
    have hlen : (Lib.decDigits u).length = Lib.nDigits u := Lib.decDigits_length u
    have hcv := run_convert_bytes_back (P := Tryd.prog) W2 31 9 5 ⟨w.heap.size, 0, none⟩ 24 (Lib.decDigits u) Tryd.underlying31 Tryd.underlying5 Tryd.underlying9 (fun j hj => hcells j _ (by simp [Lib.byteCells, hj]))
    rw [hlen] at hcv
    go_wp2_with fail
    go_ret
    exact ⟨rfl, hnx2⟩

/-- strconv.FormatUint(u, 10) -/
theorem fmt_any (u : Nat) (hu64 : u < 18446744073709551616) (w : World) (htab : Tabs w) :
    Calls Tryd.prog 37 #[.int .u64 (u : Int), .int .i64 10] w fun e w' => e = .returned (.string (dec u)) ∧ Below w.heap.size w w' := by
  have HF := Lib.hid (format_any u hu64 w htab)
  go_enter Tryd.func37, Tryd.ntmps37
  go_wp2_with (first | (go_at_call 60; refine HF.out.mono ?_; rintro e w' ⟨rfl, hb⟩))
  go_ret
  exact ⟨rfl, hb⟩
def never : ByteArray := ⟨#[110, 101, 118, 101, 114]⟩
def txt (t : Int) : ByteArray := if t = 18446744073709551615 then never else dec t.toNat
/-- tick.Text -/
theorem text_any (t : Int) (t0 : 0 ≤ t) (t1 : t ≤ 18446744073709551615) (w : World) (htab : Tabs w) :
    Calls Tryd.prog 11 #[.int .u64 t] w fun e w' => e = .returned (.string (txt t)) ∧ Below w.heap.size w w' := by
  by_cases hn : t = 18446744073709551615
  · have HE := Lib.hid (show never = txt t from (if_pos hn).symm)
    subst hn
    go_enter Tryd.func11, Tryd.ntmps11
    go_wp2_with fail
    go_ret
    exact ⟨by rw [← HE.out]; rfl, Below.refl _ _⟩
  · rw [show txt t = dec t.toNat from if_neg hn]
    obtain ⟨u, rfl⟩ := Int.eq_ofNat_of_zero_le t0
    have HF := Lib.hid (fmt_any u (by omega) w htab)
    rw [show ((u : Int)).toNat = u from Int.toNat_natCast u]
    go_enter Tryd.func11, Tryd.ntmps11
    go_wp2_with (first | (go_at_call 37; refine HF.out.mono ?_; rintro e w' ⟨rfl, hb⟩))
    go_ret
    exact ⟨rfl, hb⟩
/-- the text is read back -/
theorem dec_cat (u : Nat) (h : ¬ u < 10) : dec (u / 10) ++ dec (u % 10) = dec u := by
  have h1 : u % 10 < 10 := Nat.mod_lt _ (by decide)
  have e : Lib.decDigits u = Lib.decDigits (u / 10) ++ Lib.decDigits (u % 10) := by
    rw [Lib.decDigits_one h1]
    conv => lhs; rw [Lib.decDigits]
    rw [dif_neg h]
  apply ByteArray.ext
  show _ = (Lib.decDigits u).toArray
  rw [e]
  simp [dec]
theorem rdigits_any (u : Nat) : u < 18446744073709551616 → ∀ w, Calls Tryd.prog 38 #[.int .u64 (u : Int)] w fun e w' => e = .returned (.string (dec u)) ∧ w = w' := by
  induction u using Nat.strongRecOn with
  | _ u ih =>
    intro hu w
    by_cases h : u < 10
    · clear ih
      obtain rfl | rfl | rfl | rfl | rfl | rfl | rfl | rfl | rfl | rfl : u = 0 ∨ u = 1 ∨ u = 2 ∨ u = 3 ∨ u = 4 ∨ u = 5 ∨ u = 6 ∨ u = 7 ∨ u = 8 ∨ u = 9 := by omega
      all_goals
        go_enter Tryd.func38, Tryd.ntmps38
        go_wp2_with fail
        go_ret
        exact ⟨by first | rfl | (unfold dec; rw [Lib.decDigits_one (by decide)]; rfl), rfl⟩
    · have hi := ih (u / 10) (by omega) (by omega)
      have hj := ih (u % 10) (by omega) (by omega)
      rw [show (((u / 10 : Nat)) : Int) = (u : Int) / 10 from by omega] at hi
      rw [show (((u % 10 : Nat)) : Int) = (u : Int) % 10 from by omega] at hj
      have HI := Lib.hid hi
      have HJ := Lib.hid hj
      have HC := Lib.hid (dec_cat u h)
      have hl : (dec u).size ≤ maxLen := by
        have h1 : (dec u).size = (Lib.decDigits u).length := by simp [dec, ByteArray.size]
        rw [h1, Lib.decDigits_length]
        have hnd20 : Lib.nDigits u ≤ 20 := by have := Lib.numDigits_eq u (by omega) hu; split at this <;> omega
        unfold maxLen; omega
      have h' : ¬ (u : Int) < 10 := by omega
      generalize dec (u / 10) = a at *
      generalize dec (u % 10) = b at *
      generalize dec u = c at *
      have hl2 : (a ++ b).size ≤ maxLen := by rw [HC.out]; exact hl
      have hl3 : ¬ 9223372036854775807 < a.size + b.size := by rw [ByteArray.size_append] at hl2; unfold maxLen at hl2; omega
      clear hi hj ih h hl
      go_enter Tryd.func38, Tryd.ntmps38
      go_wp2_with fail
      refine (HI.out _).mono ?_
      rintro e w1 ⟨rfl, rfl⟩
      go_wp2_with fail
      refine (HJ.out _).mono ?_
      rintro e w1 ⟨rfl, rfl⟩
      go_wp2_with fail
      go_ret
      exact ⟨by rw [← HC.out]; rfl, rfl⟩
/-- Text of the reference -/
theorem rtext_any (t : Int) (t0 : 0 ≤ t) (t1 : t ≤ 18446744073709551615) (w : World) :
    Calls Tryd.prog 12 #[.int .u64 t] w fun e w' => e = .returned (.string (txt t)) ∧ w = w' := by
  by_cases hn : t = 18446744073709551615
  · have HE := Lib.hid (show never = txt t from (if_pos hn).symm)
    subst hn
    go_enter Tryd.func12, Tryd.ntmps12
    go_wp2_with fail
    go_ret
    exact ⟨by rw [← HE.out]; rfl, rfl⟩
  · rw [show txt t = dec t.toNat from if_neg hn]
    obtain ⟨u, rfl⟩ := Int.eq_ofNat_of_zero_le t0
    have HF := Lib.hid (rdigits_any u (by omega) w)
    rw [show ((u : Int)).toNat = u from Int.toNat_natCast u]
    go_enter Tryd.func12, Tryd.ntmps12
    go_wp2_with (first | (go_at_call 38; refine HF.out.mono ?_; rintro e w' ⟨rfl, hb⟩))
    go_ret
    exact ⟨rfl, hb⟩
theorem rnumber4_any (u : Nat) : u < 18446744073709551616 → ∀ w, Calls Tryd.prog 49 #[.int .u64 (u : Int)] w fun e w' => e = .returned (.string (dec u)) ∧ w = w' := by
  induction u using Nat.strongRecOn with
  | _ u ih =>
    intro hu w
    by_cases h : u < 10
    · clear ih
      obtain rfl | rfl | rfl | rfl | rfl | rfl | rfl | rfl | rfl | rfl : u = 0 ∨ u = 1 ∨ u = 2 ∨ u = 3 ∨ u = 4 ∨ u = 5 ∨ u = 6 ∨ u = 7 ∨ u = 8 ∨ u = 9 := by omega
      all_goals
        go_enter Tryd.func49, Tryd.ntmps49
        go_wp2_with fail
        go_ret
        exact ⟨by first | rfl | (unfold dec; rw [Lib.decDigits_one (by decide)]; rfl), rfl⟩
    · have hi := ih (u / 10) (by omega) (by omega)
      have hj := ih (u % 10) (by omega) (by omega)
      rw [show (((u / 10 : Nat)) : Int) = (u : Int) / 10 from by omega] at hi
      rw [show (((u % 10 : Nat)) : Int) = (u : Int) % 10 from by omega] at hj
      have HI := Lib.hid hi
      have HJ := Lib.hid hj
      have HC := Lib.hid (dec_cat u h)
      have hl : (dec u).size ≤ maxLen := by
        have h1 : (dec u).size = (Lib.decDigits u).length := by simp [dec, ByteArray.size]
        rw [h1, Lib.decDigits_length]
        have hnd20 : Lib.nDigits u ≤ 20 := by have := Lib.numDigits_eq u (by omega) hu; split at this <;> omega
        unfold maxLen; omega
      have h' : ¬ (u : Int) < 10 := by omega
      generalize dec (u / 10) = a at *
      generalize dec (u % 10) = b at *
      generalize dec u = c at *
      have hl2 : (a ++ b).size ≤ maxLen := by rw [HC.out]; exact hl
      have hl3 : ¬ 9223372036854775807 < a.size + b.size := by rw [ByteArray.size_append] at hl2; unfold maxLen at hl2; omega
      clear hi hj ih h hl
      go_enter Tryd.func49, Tryd.ntmps49
      go_wp2_with fail
      refine (HI.out _).mono ?_
      rintro e w1 ⟨rfl, rfl⟩
      go_wp2_with fail
      refine (HJ.out _).mono ?_
      rintro e w1 ⟨rfl, rfl⟩
      go_wp2_with fail
      go_ret
      exact ⟨by rw [← HC.out]; rfl, rfl⟩
theorem tab_at {P : Program} {W : World} {laid : List (String × DataW Unit)} (h : laidMet P laid W) (i : Nat) {name : String} {k : IntKind} {zs : List Int} {g : Nat} {t e : TypeId} {n : Nat} (hm : laid[i]? = some (name, Lib.tabData k zs))
    (hg : P.globalNamed name = some g) (hty : (P.globals[g]?).map (·.type) = some t) (ht : P.underlying t = some (.array n e)) (he : P.underlying e = some (.int k)) (hce : P.cellsOf e = 1) (hct : P.cellsOf t = n) : Lib.TabIs P W name k zs := by
  obtain ⟨ps, hl, -⟩ := h
  obtain ⟨g', t', cs, fuel, p, e1, e2, hvar, hd⟩ := Ev.laidVars_get hl hm
  obtain rfl := Option.some.inj (hg.symm.trans e1)
  obtain rfl := Option.some.inj (hty.symm.trans e2)
  unfold Lib.TabIs
  rw [hvar, ← Lib.cells_of_tab ht he hce hct hd]
theorem tabs_of {W : World} {laid : List (String × DataW Unit)} (h : laidMet Tryd.prog laid W) (i : Nat) (hm : laid[i]? = some ("internal/strconv.uint64pow10", Lib.tabData .u64 Lib.pow10Tab)) : Tabs W :=
  tab_at h i hm (g := 1) (by kernel_rfl) (t := 105) (by kernel_rfl) (e := 22) (n := 20) (by kernel_rfl) (by kernel_rfl) (by kernel_rfl) (by kernel_rfl)
end Go.Proofs.YtlpepmhpnmnpkaaDoor.Num
