/-
  FormatUint, Text and Parse of package tick (layer 3).
-/
import Derived.Test.YtjkjcmhlbimeaaaDoorShelf
import Derived.Test.YtjkjcmhlbimeaaaDoorKit
import Derived.Shelf.Strconv.Itoa3
import Derived.Lib.ItoaMem
import Derived.Lib.AppendIntMem
import Derived.Lib.SmallJoins
import Derived.Carry
set_option linter.unusedVariables false
set_option linter.unusedSimpArgs false
namespace Go.Proofs.YtjkjcmhlbimeaaaDoor.Num
open Go.RowKit Kit Go.Sort
/-- the table of powers -/
def Tabs (w : World) : Prop := Lib.TabIs Tryd.prog w "internal/strconv.uint64pow10" .u64 Lib.pow10Tab
theorem Tabs.below {w w' : World} (h : Tabs w) (hb : Below w.heap.size w w') : Tabs w' :=
  Go.Joins.tab_stays (g := 5) (by kernel_rfl) h hb (Nat.le_refl _)
/-- the decimal text of a number -/
def dec (u : Nat) : ByteArray := ⟨(Lib.decDigits u).toArray⟩
set_option maxHeartbeats 4000000 in
set_option maxRecDepth 100000 in
theorem format_any (u : Nat) (hu64 : u < 18446744073709551616) (w : World) (htab : Tabs w) :
    Calls Tryd.prog 86 #[.int .u64 (u : Int), .int .i64 10] w fun e w' => e = .returned (.string (dec u)) ∧ Below w.heap.size w w' := by
  by_cases hs : u < 100
  · have HS := Lib.hid (Tryd.internal_strconv_small u hs w)
    go_enter Tryd.func86, Tryd.ntmps86
    go_wp2_with fail
    refine HS.out.mono ?_
    rintro e w1 ⟨rfl, rfl⟩
    go_wp2_with fail
    go_ret
    exact ⟨rfl, Below.refl _ _⟩
  · have hu1 : 1 ≤ u := by omega
    have iu : (100 : Int) ≤ (u : Int) := by omega
    have hnd20 : Lib.nDigits u ≤ 20 := by have := Lib.numDigits_eq u hu1 hu64; split at this <;> omega
    have hal : Tryd.prog.arrayLen 171 = 24 := by kernel_rfl
    have hsl : ∀ W, (Instr.sliceAt 171 (.pointer (some ⟨w.heap.size, 0, none⟩)) none (some (.int .i64 (Lib.nDigits u : Int))) none).run Tryd.prog W = .ok (.slice (some ⟨w.heap.size, 0, none⟩) (Lib.nDigits u) 24) W := fun W => by
      rw [run_sliceAt_array_h W 171 ⟨w.heap.size, 0, none⟩ (by kernel_rfl) .i64 (Lib.nDigits u : Int) (by omega) (by rw [hal]; omega)]
      rw [show Tryd.prog.arrayLen 171 = 24 from hal]
      go_simp
    have hH0 := Lib.holds_zero0 w 171 (Lib.nDigits u) (by omega)
    have hfmt := Tryd.internal_strconv_formatBase10 w.heap.size 0 24 u (Array.replicate (Lib.nDigits u) 0) (w.alloc (.cells Lib.zeros24 171)) hH0 (by rw [Array.size_replicate]; exact Lib.lt_pow_nDigits u) hu64 (by rw [Array.size_replicate]; omega)
    rw [Array.size_replicate] at hfmt
    have HH0 := Lib.hid hH0
    have HN := Lib.hid fun (w' : World) (h : Tabs w') => Tryd.internal_strconv_numDigits u hu1 hu64 w' h
    have HT := Lib.hid htab
    clear htab hH0 hal
    go_enter Tryd.func86, Tryd.ntmps86
    go_wp2_with (first | (go_at_call 107; refine (HN.out _ (Lib.tabIs_alloc HT.out _)).mono ?_; rintro e w' ⟨rfl, rfl⟩))
    refine hfmt.mono ?_
    rintro e w' ⟨rfl, k, v', dk, rfl, hF⟩
    have hcells : ∀ j u', (Lib.byteCells (Lib.decDigits u))[j]? = some u' → ((putRow (fun (b : UInt8) => Value.int .u8 (b.toNat : Int)) (w.alloc (.cells Lib.zeros24 171)) w.heap.size 0 dk).drewN k).cell? ((⟨w.heap.size, 0, none⟩ : Addr).add j) = some u' := by
      intro j u' hj
      have hjl : j < (Lib.decDigits u).length := by
        have h5 := (List.getElem?_eq_some_iff.1 hj).1
        rwa [Lib.byteCells_length] at h5
      have e5 : (Lib.byteCells (Lib.decDigits u))[j]? = some (Value.int .u8 ((Lib.decDigits u)[j].toNat : Int)) := by simp [Lib.byteCells, hjl]
      rw [e5] at hj
      cases hj
      rw [Lib.row_is_numeral hF j hjl, Lib.add_plain, World.cell?_drewN]
      exact cell?_putRow (fun (b : UInt8) => Value.int .u8 (b.toNat : Int)) _ w.heap.size 0 _ dk HH0.out (by rw [hF.size, Array.size_replicate]) j (by rw [hF.size]; rw [Lib.decDigits_length] at hjl; exact hjl)
    obtain ⟨os, eo⟩ := Lib.fin_at w (.cells Lib.zeros24 171) dk k 0
    have hnx2 : Below w.heap.size w ((putRow (fun (b : UInt8) => Value.int .u8 (b.toNat : Int)) (w.alloc (.cells Lib.zeros24 171)) w.heap.size 0 dk).drewN k) := by rw [eo]; exact Lib.below_grow _ w (Nat.le_refl _) k os
    generalize (putRow (fun (b : UInt8) => Value.int .u8 (b.toNat : Int)) (w.alloc (.cells Lib.zeros24 171)) w.heap.size 0 dk).drewN k = W2 at hcells hnx2 ⊢
    clear eo HH0 hfmt HN HT
    have hlen : (Lib.decDigits u).length = Lib.nDigits u := Lib.decDigits_length u
    have hcv := run_convert_bytes_back (P := Tryd.prog) W2 112 9 5 ⟨w.heap.size, 0, none⟩ 24 (Lib.decDigits u) Tryd.underlying112 Tryd.underlying5 Tryd.underlying9 (fun j hj => hcells j _ (by simp [Lib.byteCells, hj]))
    rw [hlen] at hcv
    go_wp2_with fail
    go_ret
    exact ⟨rfl, hnx2⟩

/-- strconv.FormatUint(u, 10) -/
theorem fmt_any (u : Nat) (hu64 : u < 18446744073709551616) (w : World) (htab : Tabs w) :
    Calls Tryd.prog 49 #[.int .u64 (u : Int), .int .i64 10] w fun e w' => e = .returned (.string (dec u)) ∧ Below w.heap.size w w' := by
  have HF := Lib.hid (format_any u hu64 w htab)
  go_enter Tryd.func49, Tryd.ntmps49
  go_wp2_with (first | (go_at_call 86; refine HF.out.mono ?_; rintro e w' ⟨rfl, hb⟩))
  go_ret
  exact ⟨rfl, hb⟩
def never : ByteArray := ⟨#[110, 101, 118, 101, 114]⟩
def txt (t : Int) : ByteArray := if t = 18446744073709551615 then never else dec t.toNat
/-- tick.Text -/
theorem text_any (t : Int) (t0 : 0 ≤ t) (t1 : t ≤ 18446744073709551615) (w : World) (htab : Tabs w) :
    Calls Tryd.prog 40 #[.int .u64 t] w fun e w' => e = .returned (.string (txt t)) ∧ Below w.heap.size w w' := by
  by_cases hn : t = 18446744073709551615
  · have HE := Lib.hid (show never = txt t from (if_pos hn).symm)
    subst hn
    go_enter Tryd.func40, Tryd.ntmps40
    go_wp2_with fail
    go_ret
    exact ⟨by rw [← HE.out]; rfl, Below.refl _ _⟩
  · rw [show txt t = dec t.toNat from if_neg hn]
    obtain ⟨u, rfl⟩ := Int.eq_ofNat_of_zero_le t0
    have HF := Lib.hid (fmt_any u (by omega) w htab)
    rw [show ((u : Int)).toNat = u from Int.toNat_natCast u]
    go_enter Tryd.func40, Tryd.ntmps40
    go_wp2_with (first | (go_at_call 49; refine HF.out.mono ?_; rintro e w' ⟨rfl, hb⟩))
    go_ret
    exact ⟨rfl, hb⟩
/-- the text is read back -/
theorem parse_dec (u : Nat) : ∀ l, u ≤ 18446744073709551615 → Lib.parseUintM 18446744073709551615 0 (Lib.decDigits u ++ l) = Lib.parseUintM 18446744073709551615 u l := by
  induction u using Nat.strongRecOn with
  | _ u ih =>
    intro l hu
    by_cases h : u < 10
    · rw [Lib.decDigits_one h]
      have e : (UInt8.ofNat (48 + u)).toNat = 48 + u := by rw [UInt8.toNat_ofNat']; omega
      show Lib.parseUintM _ 0 (UInt8.ofNat (48 + u) :: l) = _
      rw [Lib.parseUintM, e, if_pos (by omega), if_neg (by omega), if_neg (by omega), show 0 * 10 + (48 + u - 48) = u by omega]
    · have h1 : u % 10 < 10 := Nat.mod_lt _ (by decide)
      have e2 : Lib.decDigits u = Lib.decDigits (u / 10) ++ [UInt8.ofNat (48 + u % 10)] := by
        conv => lhs; rw [Lib.decDigits]
        rw [dif_neg h]
      have e : (UInt8.ofNat (48 + u % 10)).toNat = 48 + u % 10 := by rw [UInt8.toNat_ofNat']; omega
      rw [e2, List.append_assoc, ih (u / 10) (by omega) _ (by omega)]
      show Lib.parseUintM _ (u / 10) (UInt8.ofNat (48 + u % 10) :: l) = _
      rw [Lib.parseUintM, e, if_pos (by omega), if_neg (by omega), if_neg (by omega), show u / 10 * 10 + (48 + u % 10 - 48) = u by omega]
theorem decDigits_ne (u : Nat) : Lib.decDigits u ≠ [] := by
  intro h
  have h1 := Lib.decDigits_length u
  rw [h] at h1
  have h2 : 1 ≤ Lib.nDigits u := by
    by_cases h10 : u < 10
    · rw [Lib.nDigits_small h10]; omega
    · rw [Lib.nDigits_big h10]; omega
  simp at h1
  omega
theorem parseB_dec (u : Nat) (hu : u ≤ 18446744073709551615) : Lib.parseUintB 64 (dec u).data.toList = .ok u := by
  show Lib.parseUintB 64 (Lib.decDigits u) = _
  unfold Lib.parseUintB
  rw [if_neg (decDigits_ne u)]
  have h := parse_dec u [] hu
  rw [List.append_nil] at h
  exact h
/-- the errors' variables -/
structure Errs (w : World) : Prop where
  syn : ∃ ev, w.cell? ⟨6, 0, none⟩ = some ev ∧ (ev = .nilIface ∨ ∃ te pe, ev = .iface te pe)
  rng : ∃ ev, w.cell? ⟨7, 0, none⟩ = some ev ∧ (ev = .nilIface ∨ ∃ te pe, ev = .iface te pe)
theorem Errs.below {w w' : World} (h : Errs w) (hb : Below w.heap.size w w') : Errs w' := by
  obtain ⟨⟨a, h1, h2⟩, ⟨b, h3, h4⟩⟩ := h
  exact ⟨⟨a, by rw [hb.cell (World.block_lt_of_cell? w _ h1)]; exact h1, h2⟩, ⟨b, by rw [hb.cell (World.block_lt_of_cell? w _ h3)]; exact h3, h4⟩⟩
/-- what Parse says -/
def pres (s : ByteArray) : Int × Int := if s = never then (18446744073709551615, 0) else match Lib.parseUintB 64 s.data.toList with | .ok u => if txt u = s then ((u : Int), 0) else (0, 6) | _ => (0, 6)
theorem pres_never : pres never = (18446744073709551615, 0) := if_pos rfl
theorem beq_never {s : ByteArray} (h : ¬ s = never) : (s.toList == [110, 101, 118, 101, 114]) = false := by
  rw [Bool.eq_false_iff]
  intro h1
  apply h
  have h2 := eq_of_beq h1
  rw [ByteArray.toList_eq] at h2
  exact ByteArray.ext (by rw [← Array.toList_inj]; exact h2)
theorem beq_never2 : (never.toList == [110, 101, 118, 101, 114]) = true := by rw [ByteArray.toList_eq]; rfl
theorem beq_ne {s t : ByteArray} (h : ¬ s = t) : (s.toList == t.toList) = false := by
  rw [Bool.eq_false_iff]
  intro h1
  apply h
  have h2 := eq_of_beq h1
  rw [ByteArray.toList_eq, ByteArray.toList_eq] at h2
  exact ByteArray.ext (by rw [← Array.toList_inj]; exact h2)
theorem bw {w w1 : World} {e : TypeId} {s : ByteArray} (h : w1 = w ∨ w1 = Lib.bytesWorld w e s) : Below w.heap.size w w1 := by
  rcases h with rfl | rfl
  · exact Below.refl _ _
  · exact Go.Joins.below_bytesWorld _ _ _ _ (Nat.le_refl _)
theorem parse_any (s : ByteArray) (hs : s.size ≤ 1048576) (w : World) (htab : Tabs w) (he : Errs w) :
    Calls Tryd.prog 77 #[.string s] w fun e w' => e = .returned (.tuple #[.int .u64 (pres s).1, .int .i64 (pres s).2]) ∧ Below w.heap.size w w' := by
  by_cases hn : s = never
  · have HP := Lib.hid (show pres s = _ from hn ▸ pres_never)
    have hnb : (s.toList == [110, 101, 118, 101, 114]) = true := hn ▸ beq_never2
    clear hn
    go_enter Tryd.func77, Tryd.ntmps77
    go_wp2_with fail
    go_ret2
    exact ⟨by rw [HP.out]; rfl, Below.refl _ _⟩
  · have hnb := beq_never hn
    have HP := Lib.hid (show pres s = _ from if_neg hn)
    cases hp : Lib.parseUintB 64 s.data.toList with
    | ok u =>
      have HC := Lib.hid (Tryd.strconv_ParseUint_10_at64_ok s (by omega) u hp w)
      have hu : (u : Int) ≤ 18446744073709551615 := by have := Lib.parseUintB_le hp; omega
      have HT := Lib.hid (fun w1 h => text_any (u : Int) (by omega) hu w1 h)
      rw [hp] at HP
      simp only at HP
      clear hp
      by_cases hq : txt (u : Int) = s
      · rw [if_pos hq] at HP
        rw [hq] at HT
        clear hq
        go_enter Tryd.func77, Tryd.ntmps77
        go_wp2_with (first | (go_at_call 55; refine HC.out.mono ?_; rintro e w1 ⟨rfl, hw1⟩; have hb1 := bw hw1; clear hw1 HC) | (go_at_call 40; refine (HT.out _ (htab.below hb1)).mono ?_; rintro e w2 ⟨rfl, hb2⟩; replace hb2 := hb1.trans (hb2.mono hb1.size)))
        go_ret2
        exact ⟨by rw [HP.out]; rfl, hb2⟩
      · rw [if_neg hq] at HP
        have hqb : ((txt (u : Int)).toList == s.toList) = false := beq_ne hq
        generalize txt (u : Int) = q at HT hqb
        clear hq
        go_enter Tryd.func77, Tryd.ntmps77
        go_wp2_with (first | (go_at_call 55; refine HC.out.mono ?_; rintro e w1 ⟨rfl, hw1⟩; have hb1 := bw hw1; clear hw1 HC) | (go_at_call 40; refine (HT.out _ (htab.below hb1)).mono ?_; rintro e w2 ⟨rfl, hb2⟩; replace hb2 := hb1.trans (hb2.mono hb1.size)))
        go_ret2
        exact ⟨by rw [HP.out]; rfl, hb2⟩
    | «syntax» =>
      obtain ⟨ev, hv, hev⟩ := he.syn
      have HC := Lib.hid (Tryd.strconv_ParseUint_10_at64_syntax s (by omega) hp ev w hv hev)
      rw [hp] at HP
      simp only at HP
      clear hp hv hev he
      go_enter Tryd.func77, Tryd.ntmps77
      go_wp2_with (first | (go_at_call 55; refine HC.out.mono ?_; rintro e w1 ⟨NN, rfl, hN1, hN2, hb1⟩; clear HC hN1 hN2))
      go_ret2
      exact ⟨by rw [HP.out]; rfl, hb1⟩
    | range =>
      obtain ⟨ev, hv, hev⟩ := he.rng
      have HC := Lib.hid (Tryd.strconv_ParseUint_10_at64_range s (by omega) hp ev w hv hev)
      rw [hp] at HP
      simp only at HP
      clear hp hv hev he
      go_enter Tryd.func77, Tryd.ntmps77
      go_wp2_with (first | (go_at_call 55; refine HC.out.mono ?_; rintro e w1 ⟨NN, rfl, hN1, hN2, hb1⟩; clear HC hN1 hN2))
      go_ret2
      exact ⟨by rw [HP.out]; rfl, hb1⟩
end Go.Proofs.YtjkjcmhlbimeaaaDoor.Num
