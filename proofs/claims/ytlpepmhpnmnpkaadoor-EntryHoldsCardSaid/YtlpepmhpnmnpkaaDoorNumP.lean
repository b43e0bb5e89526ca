/-
  Parse of package tick and of its reference (layer 3), behind NumQ.
-/
import Derived.Test.YtlpepmhpnmnpkaaDoorNumQ
set_option linter.unusedVariables false
set_option linter.unusedSimpArgs false
namespace Go.Proofs.YtlpepmhpnmnpkaaDoor.Num
open Go.RowKit Kit Go.Sort
/-- the text is read back -/
theorem parse_dec (u : Nat) : ∀ l, u ≤ 18446744073709551615 → Lib.parseUintM 18446744073709551615 0 (Lib.decDigits u ++ l) = Lib.parseUintM 18446744073709551615 u l := by
  induction u using Nat.strongRecOn with
  | _ u ih =>
    intro l hu
    by_cases h : u < 10
    · rw [Lib.decDigits_one h]
      have e : (UInt8.ofNat (48 + u)).toNat = 48 + u := by rw [UInt8.toNat_ofNat']; omega
      show Lib.parseUintM _ 0 (UInt8.ofNat (48 + u) :: l) = _
      rw [Lib.parseUintM, e, if_pos (by omega), if_neg (by omega), if_neg (by omega), show 0 * 10 + (48 + u - 48) = u by omega]
    · have h1 : u % 10 < 10 := Nat.mod_lt _ (by decide)
      have e2 : Lib.decDigits u = Lib.decDigits (u / 10) ++ [UInt8.ofNat (48 + u % 10)] := by
        conv => lhs; rw [Lib.decDigits]
        rw [dif_neg h]
      have e : (UInt8.ofNat (48 + u % 10)).toNat = 48 + u % 10 := by rw [UInt8.toNat_ofNat']; omega
      rw [e2, List.append_assoc, ih (u / 10) (by omega) _ (by omega)]
      show Lib.parseUintM _ (u / 10) (UInt8.ofNat (48 + u % 10) :: l) = _
      rw [Lib.parseUintM, e, if_pos (by omega), if_neg (by omega), if_neg (by omega), show u / 10 * 10 + (48 + u % 10 - 48) = u by omega]
theorem decDigits_ne (u : Nat) : Lib.decDigits u ≠ [] := by
  intro h
  have h1 := Lib.decDigits_length u
  rw [h] at h1
  have h2 : 1 ≤ Lib.nDigits u := by
    by_cases h10 : u < 10
    · rw [Lib.nDigits_small h10]; omega
    · rw [Lib.nDigits_big h10]; omega
  simp at h1
  omega
theorem parseB_dec (u : Nat) (hu : u ≤ 18446744073709551615) : Lib.parseUintB 64 (dec u).data.toList = .ok u := by
  show Lib.parseUintB 64 (Lib.decDigits u) = _
  unfold Lib.parseUintB
  rw [if_neg (decDigits_ne u)]
  have h := parse_dec u [] hu
  rw [List.append_nil] at h
  exact h
/-- the errors' variables -/
structure Errs (w : World) : Prop where
  syn : ∃ ev, w.cell? ⟨3, 0, none⟩ = some ev ∧ (ev = .nilIface ∨ ∃ te pe, ev = .iface te pe)
  rng : ∃ ev, w.cell? ⟨4, 0, none⟩ = some ev ∧ (ev = .nilIface ∨ ∃ te pe, ev = .iface te pe)
theorem Errs.below {w w' : World} (h : Errs w) (hb : Below w.heap.size w w') : Errs w' := by
  obtain ⟨⟨a, h1, h2⟩, ⟨b, h3, h4⟩⟩ := h
  exact ⟨⟨a, by rw [hb.cell (World.block_lt_of_cell? w _ h1)]; exact h1, h2⟩, ⟨b, by rw [hb.cell (World.block_lt_of_cell? w _ h3)]; exact h3, h4⟩⟩
/-- what Parse says -/
def pres (s : ByteArray) : Int × Int := if s = never then (18446744073709551615, 0) else match Lib.parseUintB 64 s.data.toList with | .ok u => if txt u = s then ((u : Int), 0) else (0, 6) | _ => (0, 6)
theorem pres_never : pres never = (18446744073709551615, 0) := if_pos rfl
theorem beq_never {s : ByteArray} (h : ¬ s = never) : (s.toList == [110, 101, 118, 101, 114]) = false := by
  rw [Bool.eq_false_iff]
  intro h1
  apply h
  have h2 := eq_of_beq h1
  rw [ByteArray.toList_eq] at h2
  exact ByteArray.ext (by rw [← Array.toList_inj]; exact h2)
theorem beq_never2 : (never.toList == [110, 101, 118, 101, 114]) = true := by rw [ByteArray.toList_eq]; rfl
theorem beq_ne {s t : ByteArray} (h : ¬ s = t) : (s.toList == t.toList) = false := by
  rw [Bool.eq_false_iff]
  intro h1
  apply h
  have h2 := eq_of_beq h1
  rw [ByteArray.toList_eq, ByteArray.toList_eq] at h2
  exact ByteArray.ext (by rw [← Array.toList_inj]; exact h2)
theorem bw {w w1 : World} {e : TypeId} {s : ByteArray} (h : w1 = w ∨ w1 = Lib.bytesWorld w e s) : Below w.heap.size w w1 := by
  rcases h with rfl | rfl
  · exact Below.refl _ _
  · exact Go.Joins.below_bytesWorld _ _ _ _ (Nat.le_refl _)
theorem parse_any (s : ByteArray) (hs : s.size ≤ 1048576) (w : World) (htab : Tabs w) (he : Errs w) :
    Calls Tryd.prog 39 #[.string s] w fun e w' => e = .returned (.tuple #[.int .u64 (pres s).1, .int .i64 (pres s).2]) ∧ Below w.heap.size w w' := by
  by_cases hn : s = never
  · have HP := Lib.hid (show pres s = _ from hn ▸ pres_never)
    have hnb : (s.toList == [110, 101, 118, 101, 114]) = true := hn ▸ beq_never2
    clear hn
    go_enter Tryd.func39, Tryd.ntmps39
    go_wp2_with fail
    go_ret2
    exact ⟨by rw [HP.out]; rfl, Below.refl _ _⟩
  · have hnb := beq_never hn
    have HP := Lib.hid (show pres s = _ from if_neg hn)
    cases hp : Lib.parseUintB 64 s.data.toList with
    | ok u =>
      have HC := Lib.hid (Tryd.strconv_ParseUint_10_at64_ok s (by omega) u hp w)
      have hu : (u : Int) ≤ 18446744073709551615 := by have := Lib.parseUintB_le hp; omega
      have HT := Lib.hid (fun w1 h => text_any (u : Int) (by omega) hu w1 h)
      rw [hp] at HP
      simp only at HP
      clear hp
      by_cases hq : txt (u : Int) = s
      · rw [if_pos hq] at HP
        rw [hq] at HT
        clear hq
        go_enter Tryd.func39, Tryd.ntmps39
        go_wp2_with (first | (go_at_call 56; refine HC.out.mono ?_; rintro e w1 ⟨rfl, hw1⟩; have hb1 := bw hw1; clear hw1 HC) | (go_at_call 11; refine (HT.out _ (htab.below hb1)).mono ?_; rintro e w2 ⟨rfl, hb2⟩; replace hb2 := hb1.trans (hb2.mono hb1.size)))
        go_ret2
        exact ⟨by rw [HP.out]; rfl, hb2⟩
      · rw [if_neg hq] at HP
        have hqb : ((txt (u : Int)).toList == s.toList) = false := beq_ne hq
        generalize txt (u : Int) = q at HT hqb
        clear hq
        go_enter Tryd.func39, Tryd.ntmps39
        go_wp2_with (first | (go_at_call 56; refine HC.out.mono ?_; rintro e w1 ⟨rfl, hw1⟩; have hb1 := bw hw1; clear hw1 HC) | (go_at_call 11; refine (HT.out _ (htab.below hb1)).mono ?_; rintro e w2 ⟨rfl, hb2⟩; replace hb2 := hb1.trans (hb2.mono hb1.size)))
        go_ret2
        exact ⟨by rw [HP.out]; rfl, hb2⟩
    | «syntax» =>
      obtain ⟨ev, hv, hev⟩ := he.syn
      have HC := Lib.hid (Tryd.strconv_ParseUint_10_at64_syntax s (by omega) hp ev w hv hev)
      rw [hp] at HP
      simp only at HP
      clear hp hv hev he
      go_enter Tryd.func39, Tryd.ntmps39
      go_wp2_with (first | (go_at_call 56; refine HC.out.mono ?_; rintro e w1 ⟨NN, rfl, hN1, hN2, hb1⟩; clear HC hN1 hN2))
      go_ret2
      exact ⟨by rw [HP.out]; rfl, hb1⟩
    | range =>
      obtain ⟨ev, hv, hev⟩ := he.rng
      have HC := Lib.hid (Tryd.strconv_ParseUint_10_at64_range s (by omega) hp ev w hv hev)
      rw [hp] at HP
      simp only at HP
      clear hp hv hev he
      go_enter Tryd.func39, Tryd.ntmps39
      go_wp2_with (first | (go_at_call 56; refine HC.out.mono ?_; rintro e w1 ⟨NN, rfl, hN1, hN2, hb1⟩; clear HC hN1 hN2))
      go_ret2
      exact ⟨by rw [HP.out]; rfl, hb1⟩
def rpm (s : ByteArray) (r : Lib.NumEnd Nat) : Int × Bool := match r with | .ok u => if txt u = s then ((u : Int), true) else (0, false) | _ => (0, false)
def rpres (s : ByteArray) : Int × Bool := if s = never then (18446744073709551615, true) else if s.size = 0 ∨ 20 < s.size then (0, false) else rpm s (Lib.parseUintM 18446744073709551615 0 s.data.toList)
theorem rpres_never : rpres never = (18446744073709551615, true) := if_pos rfl
theorem pm_syn {M n : Nat} {c : UInt8} {r : List UInt8} (h : ¬ (48 ≤ c.toNat ∧ c.toNat ≤ 57)) : Lib.parseUintM M n (c :: r) = .syntax := by rw [Lib.parseUintM, if_neg h]
theorem pm_rng {n : Nat} {c : UInt8} {r : List UInt8} (h : 48 ≤ c.toNat ∧ c.toNat ≤ 57) (h1 : 18446744073709551615 < n * 10 + (c.toNat - 48)) : Lib.parseUintM 18446744073709551615 n (c :: r) = .range := by
  rw [Lib.parseUintM, if_pos h]
  split
  · rfl
  · first | rfl | rw [if_pos h1]
theorem pm_on {n : Nat} {c : UInt8} {r : List UInt8} (h : 48 ≤ c.toNat ∧ c.toNat ≤ 57) (h1 : ¬ 18446744073709551615 < n * 10 + (c.toNat - 48)) : Lib.parseUintM 18446744073709551615 n (c :: r) = Lib.parseUintM 18446744073709551615 (n * 10 + (c.toNat - 48)) r := by
  rw [Lib.parseUintM, if_pos h, if_neg (by omega), if_neg h1]
theorem drop_at {s : ByteArray} {k : Nat} (h : k < s.size) : s.data.toList.drop k = s[k] :: s.data.toList.drop (k + 1) := by
  have h' : k < s.data.toList.length := by simpa using h
  rw [List.drop_eq_getElem_cons h']
  rfl
theorem rparse_any (s : ByteArray) (hs : s.size ≤ 1048576) (w : World) :
    Calls Tryd.prog 10 #[.string s] w fun e w' => e = .returned (.tuple #[.int .u64 (rpres s).1, .bool (rpres s).2]) ∧ w = w' := by
  by_cases hn : s = never
  · have HP := Lib.hid (show rpres s = _ from hn ▸ rpres_never)
    have hnb : (s.toList == [110, 101, 118, 101, 114]) = true := hn ▸ beq_never2
    clear hn
    go_enter Tryd.func10, Tryd.ntmps10
    go_wp2_with fail
    go_ret2
    exact ⟨by rw [HP.out]; rfl, rfl⟩
  · have hnb := beq_never hn
    by_cases hz : s.size = 0 ∨ 20 < s.size
    · have HP := Lib.hid (show rpres s = (0, false) from (if_neg hn).trans (if_pos hz))
      clear hn
      rcases hz with hz | hz
      · go_enter Tryd.func10, Tryd.ntmps10
        go_wp2_with fail
        go_ret2
        exact ⟨by rw [HP.out]; rfl, rfl⟩
      · have hz1 : ¬ s.size = 0 := by omega
        go_enter Tryd.func10, Tryd.ntmps10
        go_wp2_with fail
        go_ret2
        exact ⟨by rw [HP.out]; rfl, rfl⟩
    · have HP := Lib.hid (show rpres s = _ from (if_neg hn).trans (if_neg hz))
      have hz1 : ¬ s.size = 0 := by omega
      have hz2 : s.size ≤ 20 := by omega
      have hf1 : (((s.size : Nat) : Int) == 0) = false := by rw [beq_eq_false_iff_ne]; omega
      have hf2 : ¬ (20 : Int) < ((s.size : Nat) : Int) := by omega
      have HT := Lib.hid (fun (u : Int) (u0 : 0 ≤ u) (u1 : u ≤ 18446744073709551615) => rtext_any u u0 u1 w)
      clear hn hz
      go_enter Tryd.func10, Tryd.ntmps10
      go_wp2_with fail
      go_loop [4, 5] (fun m i => ∃ k n : Nat, k ≤ s.size ∧ n ≤ 18446744073709551615 ∧ i = .int .i64 k ∧ m = .int .u64 n ∧ Lib.parseUintM 18446744073709551615 0 s.data.toList = Lib.parseUintM 18446744073709551615 n (s.data.toList.drop k)) (fun _ i => s.size - (intOf i).toNat)
      case atStart => exact ⟨0, 0, by omega, by omega, rfl, rfl, rfl⟩
      case round =>
        obtain ⟨k, n, hk, hn1, rfl, rfl, hpm⟩ := hrel
        by_cases hlt : k < s.size
        · have hix : ∀ W, (Instr.index 9 (.string s) (.int .i64 (k : Int))).run Tryd.prog W = .ok (.int .u8 ((s[k].toNat : Nat) : Int)) W := fun W => by
            rw [run_index_string W 9 s .i64 (k : Int) Tryd.underlying9, dif_pos ⟨by omega, by omega⟩]
            simp
          rw [drop_at hlt] at hpm
          have hc0 : s[k].toNat < 256 := s[k].toNat_lt
          by_cases hd : 48 ≤ s[k].toNat ∧ s[k].toNat ≤ 57
          · have HD := Lib.hid hd
            by_cases hm : 18446744073709551615 < n * 10 + (s[k].toNat - 48)
            · rw [pm_rng hd hm] at hpm
              rw [hpm] at HP
              clear hpm
              generalize s[k].toNat = c at *
              have i1 : (48 : Int) ≤ (c : Int) := by omega
              have i2 : (c : Int) ≤ 57 := by omega
              have i3 : (18446744073709551615 - ((c : Int) - 48)) / 10 < (n : Int) := by omega
              have w1 := IntWalk.u8_in ((c : Int) - 48) (by omega)
              have w2 := IntWalk.u64_in ((c : Int) - 48) (by omega)
              have w3 := IntWalk.u64_in (18446744073709551615 - ((c : Int) - 48)) (by omega)
              have w4 := IntWalk.u64_in ((18446744073709551615 - ((c : Int) - 48)) / 10) (by omega)
              have ilt : (k : Int) < (s.size : Int) := by omega
              clear hd hm
              go_wp2
              go_ret2
              exact ⟨by rw [HP.out]; rfl, rfl⟩
            · rw [pm_on hd hm] at hpm
              have HM := Lib.hid hpm
              clear hpm HP
              generalize s[k].toNat = c at *
              have i1 : (48 : Int) ≤ (c : Int) := by omega
              have i2 : (c : Int) ≤ 57 := by omega
              have i3 : (n : Int) ≤ (18446744073709551615 - ((c : Int) - 48)) / 10 := by omega
              have w1 := IntWalk.u8_in ((c : Int) - 48) (by omega)
              have w2 := IntWalk.u64_in ((c : Int) - 48) (by omega)
              have w3 := IntWalk.u64_in (18446744073709551615 - ((c : Int) - 48)) (by omega)
              have w4 := IntWalk.u64_in ((18446744073709551615 - ((c : Int) - 48)) / 10) (by omega)
              have w5 := IntWalk.u64_in (10 * (n : Int)) (by omega)
              have w6 := IntWalk.u64_in (10 * (n : Int) + ((c : Int) - 48)) (by omega)
              have w7 := IntWalk.i64_in ((k : Int) + 1) (by omega)
              have ilt : (k : Int) < (s.size : Int) := by omega
              have hle : n * 10 + (c - 48) ≤ 18446744073709551615 := by omega
              have hee : (((n * 10 + (c - 48) : Nat)) : Int) = 10 * (n : Int) + ((c : Int) - 48) := by omega
              have HE := Lib.hid hee
              clear hd hm hee w7
              go_wp2
              go_round
              case rel => exact ⟨k + 1, n * 10 + (c - 48), by omega, hle, by go_num, by rw [HE.out], HM.out⟩
              case measure => simp [intOf]; omega
          · rw [pm_syn hd] at hpm
            rw [hpm] at HP
            clear hpm
            generalize s[k].toNat = c at *
            have ilt : (k : Int) < (s.size : Int) := by omega
            by_cases hc : c < 48
            · have i1 : (c : Int) < 48 := by omega
              clear hd
              go_wp2
              go_ret2
              exact ⟨by rw [HP.out]; rfl, rfl⟩
            · have i1 : (48 : Int) ≤ (c : Int) := by omega
              have i2 : (57 : Int) < (c : Int) := by omega
              clear hd
              go_wp2
              go_ret2
              exact ⟨by rw [HP.out]; rfl, rfl⟩
        · obtain rfl : k = s.size := by omega
          rw [List.drop_of_length_le (by simp)] at hpm
          rw [hpm] at HP
          clear hpm
          have hr : rpm s (Lib.parseUintM 18446744073709551615 n []) = if txt (n : Int) = s then ((n : Int), true) else (0, false) := rfl
          rw [hr] at HP
          clear hr
          have HQ := Lib.hid (HT.out (n : Int) (by omega) (by omega))
          clear HT
          by_cases hq : txt (n : Int) = s
          · rw [if_pos hq] at HP
            rw [hq] at HQ
            clear hq
            go_wp2_with (first | (go_at_call 12; refine HQ.out.mono ?_; rintro e w2 ⟨rfl, rfl⟩))
            go_ret2
            exact ⟨by rw [HP.out]; rfl, rfl⟩
          · rw [if_neg hq] at HP
            have hqb : ((txt (n : Int)).toList == s.toList) = false := beq_ne hq
            generalize txt (n : Int) = q at HQ hqb
            clear hq
            go_wp2_with (first | (go_at_call 12; refine HQ.out.mono ?_; rintro e w2 ⟨rfl, rfl⟩))
            go_ret2
            exact ⟨by rw [HP.out]; rfl, rfl⟩
/-- the two readings agree -/
theorem pres_rpres (s : ByteArray) : pres s = ((rpres s).1, if (rpres s).2 = true then 0 else 6) := by
  unfold pres rpres
  by_cases hn : s = never
  · rw [if_pos hn, if_pos hn]; rfl
  · rw [if_neg hn, if_neg hn]
    by_cases hz : s.size = 0 ∨ 20 < s.size
    · rw [if_pos hz]
      rcases hz with hz | hz
      · have h1 : s.data.toList = [] := by
          rw [← List.length_eq_zero_iff]
          simpa using hz
        rw [h1]
        rfl
      · cases hp : Lib.parseUintB 64 s.data.toList with
        | ok u =>
          have hne : ¬ txt (u : Int) = s := by
            intro h
            have hu := Lib.parseUintB_le hp
            have h20 : (txt (u : Int)).size ≤ 20 := by
              unfold txt
              split
              · decide
              · show (Lib.decDigits u).toArray.size ≤ 20
                simp only [List.size_toArray]
                rw [Lib.decDigits_length]
                by_cases h1 : 1 ≤ u
                · have := Lib.numDigits_eq u h1 (by omega); split at this <;> omega
                · obtain rfl : u = 0 := by omega
                  rw [Lib.nDigits_small (by omega)]; omega
            rw [h] at h20
            omega
          simp only [if_neg hne]
          rfl
        | «syntax» => rfl
        | range => rfl
    · rw [if_neg hz]
      have h1 : s.data.toList ≠ [] := by
        intro h
        have h2 : s.size = 0 := by
          show s.data.size = 0
          rw [← Array.length_toList, h]; rfl
        omega
      have h3 : Lib.parseUintB 64 s.data.toList = Lib.parseUintM 18446744073709551615 0 s.data.toList := by
        unfold Lib.parseUintB
        rw [if_neg h1]
      rw [h3]
      cases hp : Lib.parseUintM 18446744073709551615 0 s.data.toList with
      | ok u =>
        unfold rpm
        simp only
        by_cases hq : txt (u : Int) = s
        · simp [hq]
        · simp [hq]
      | «syntax» => rfl
      | range => rfl
end Go.Proofs.YtlpepmhpnmnpkaaDoor.Num
