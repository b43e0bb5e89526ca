/-
  Decimal texts of times (layer 3): package tick's and the reference's.
-/
import Derived.Test.YtcbekibofgcoaaaDoorNumV
import Derived.Test.YtcbekibofgcoaaaDoorShelf
import Derived.Test.YtcbekibofgcoaaaDoorKit
import Derived.Shelf.Strconv.Itoa3
import Derived.Lib.ItoaMem
import Derived.Carry
set_option linter.unusedVariables false
set_option linter.unusedSimpArgs false
namespace Go.Proofs.YtcbekibofgcoaaaDoor.Num
open Go.RowKit Kit Go.Sort
theorem dec_cat (u : Nat) (h : ¬ u < 10) : dec (u / 10) ++ dec (u % 10) = dec u := by
  have h1 : u % 10 < 10 := Nat.mod_lt _ (by decide)
  have e : Lib.decDigits u = Lib.decDigits (u / 10) ++ Lib.decDigits (u % 10) := by
    rw [Lib.decDigits_one h1]
    conv => lhs; rw [Lib.decDigits]
    rw [dif_neg h]
  apply ByteArray.ext
  show _ = (Lib.decDigits u).toArray
  rw [e]
  simp [dec]
theorem rdigits_any (u : Nat) : u < 18446744073709551616 → ∀ w, Calls Tryd.prog 29 #[.int .u64 (u : Int)] w fun e w' => e = .returned (.string (dec u)) ∧ w = w' := by
  induction u using Nat.strongRecOn with
  | _ u ih =>
    intro hu w
    by_cases h : u < 10
    · clear ih
      obtain rfl | rfl | rfl | rfl | rfl | rfl | rfl | rfl | rfl | rfl : u = 0 ∨ u = 1 ∨ u = 2 ∨ u = 3 ∨ u = 4 ∨ u = 5 ∨ u = 6 ∨ u = 7 ∨ u = 8 ∨ u = 9 := by omega
      all_goals
        go_enter Tryd.func29, Tryd.ntmps29
        go_wp2_with fail
        go_ret
        exact ⟨by first | rfl | (unfold dec; rw [Lib.decDigits_one (by decide)]; rfl), rfl⟩
    · have hi := ih (u / 10) (by omega) (by omega)
      have hj := ih (u % 10) (by omega) (by omega)
      rw [show (((u / 10 : Nat)) : Int) = (u : Int) / 10 from by omega] at hi
      rw [show (((u % 10 : Nat)) : Int) = (u : Int) % 10 from by omega] at hj
      have HI := Lib.hid hi
      have HJ := Lib.hid hj
      have HC := Lib.hid (dec_cat u h)
      have hl : (dec u).size ≤ maxLen := by
        have h1 : (dec u).size = (Lib.decDigits u).length := by simp [dec, ByteArray.size]
        rw [h1, Lib.decDigits_length]
        have hnd20 : Lib.nDigits u ≤ 20 := by have := Lib.numDigits_eq u (by omega) hu; split at this <;> omega
        unfold maxLen; omega
      have h' : ¬ (u : Int) < 10 := by omega
      generalize dec (u / 10) = a at *
      generalize dec (u % 10) = b at *
      generalize dec u = c at *
      have hl2 : (a ++ b).size ≤ maxLen := by rw [HC.out]; exact hl
      have hl3 : ¬ 9223372036854775807 < a.size + b.size := by rw [ByteArray.size_append] at hl2; unfold maxLen at hl2; omega
      clear hi hj ih h hl
      go_enter Tryd.func29, Tryd.ntmps29
      go_wp2_with fail
      refine (HI.out _).mono ?_
      rintro e w1 ⟨rfl, rfl⟩
      go_wp2_with fail
      refine (HJ.out _).mono ?_
      rintro e w1 ⟨rfl, rfl⟩
      go_wp2_with fail
      go_ret
      exact ⟨by rw [← HC.out]; rfl, rfl⟩
/-- Text of the reference -/
theorem rtext_any (t : Int) (t0 : 0 ≤ t) (t1 : t ≤ 18446744073709551615) (w : World) :
    Calls Tryd.prog 10 #[.int .u64 t] w fun e w' => e = .returned (.string (txt t)) ∧ w = w' := by
  by_cases hn : t = 18446744073709551615
  · have HE := Lib.hid (show never = txt t from (if_pos hn).symm)
    subst hn
    go_enter Tryd.func10, Tryd.ntmps10
    go_wp2_with fail
    go_ret
    exact ⟨by rw [← HE.out]; rfl, rfl⟩
  · rw [show txt t = dec t.toNat from if_neg hn]
    obtain ⟨u, rfl⟩ := Int.eq_ofNat_of_zero_le t0
    have HF := Lib.hid (rdigits_any u (by omega) w)
    rw [show ((u : Int)).toNat = u from Int.toNat_natCast u]
    go_enter Tryd.func10, Tryd.ntmps10
    go_wp2_with (first | (go_at_call 29; refine HF.out.mono ?_; rintro e w' ⟨rfl, hb⟩))
    go_ret
    exact ⟨rfl, hb⟩
def rpm (s : ByteArray) (r : Lib.NumEnd Nat) : Int × Bool := match r with | .ok u => if txt u = s then ((u : Int), true) else (0, false) | _ => (0, false)
def rpres (s : ByteArray) : Int × Bool := if s = never then (18446744073709551615, true) else if s.size = 0 ∨ 20 < s.size then (0, false) else rpm s (Lib.parseUintM 18446744073709551615 0 s.data.toList)
theorem rpres_never : rpres never = (18446744073709551615, true) := if_pos rfl
theorem pm_syn {M n : Nat} {c : UInt8} {r : List UInt8} (h : ¬ (48 ≤ c.toNat ∧ c.toNat ≤ 57)) : Lib.parseUintM M n (c :: r) = .syntax := by rw [Lib.parseUintM, if_neg h]
theorem pm_rng {n : Nat} {c : UInt8} {r : List UInt8} (h : 48 ≤ c.toNat ∧ c.toNat ≤ 57) (h1 : 18446744073709551615 < n * 10 + (c.toNat - 48)) : Lib.parseUintM 18446744073709551615 n (c :: r) = .range := by
  rw [Lib.parseUintM, if_pos h]
  split
  · rfl
  · first | rfl | rw [if_pos h1]
theorem pm_on {n : Nat} {c : UInt8} {r : List UInt8} (h : 48 ≤ c.toNat ∧ c.toNat ≤ 57) (h1 : ¬ 18446744073709551615 < n * 10 + (c.toNat - 48)) : Lib.parseUintM 18446744073709551615 n (c :: r) = Lib.parseUintM 18446744073709551615 (n * 10 + (c.toNat - 48)) r := by
  rw [Lib.parseUintM, if_pos h, if_neg (by omega), if_neg h1]
theorem drop_at {s : ByteArray} {k : Nat} (h : k < s.size) : s.data.toList.drop k = s[k] :: s.data.toList.drop (k + 1) := by
  have h' : k < s.data.toList.length := by simpa using h
  rw [List.drop_eq_getElem_cons h']
  rfl
theorem rparse_any (s : ByteArray) (hs : s.size ≤ 1048576) (w : World) :
    Calls Tryd.prog 8 #[.string s] w fun e w' => e = .returned (.tuple #[.int .u64 (rpres s).1, .bool (rpres s).2]) ∧ w = w' := by
  by_cases hn : s = never
  · have HP := Lib.hid (show rpres s = _ from hn ▸ rpres_never)
    have hnb : (s.toList == [110, 101, 118, 101, 114]) = true := hn ▸ beq_never2
    clear hn
    go_enter Tryd.func8, Tryd.ntmps8
    go_wp2_with fail
    go_ret2
    exact ⟨by rw [HP.out]; rfl, rfl⟩
  · have hnb := beq_never hn
    by_cases hz : s.size = 0 ∨ 20 < s.size
    · have HP := Lib.hid (show rpres s = (0, false) from (if_neg hn).trans (if_pos hz))
      clear hn
      rcases hz with hz | hz
      · go_enter Tryd.func8, Tryd.ntmps8
        go_wp2_with fail
        go_ret2
        exact ⟨by rw [HP.out]; rfl, rfl⟩
      · have hz1 : ¬ s.size = 0 := by omega
        go_enter Tryd.func8, Tryd.ntmps8
        go_wp2_with fail
        go_ret2
        exact ⟨by rw [HP.out]; rfl, rfl⟩
    · have HP := Lib.hid (show rpres s = _ from (if_neg hn).trans (if_neg hz))
      have hz1 : ¬ s.size = 0 := by omega
      have hz2 : s.size ≤ 20 := by omega
      have hf1 : (((s.size : Nat) : Int) == 0) = false := by rw [beq_eq_false_iff_ne]; omega
      have hf2 : ¬ (20 : Int) < ((s.size : Nat) : Int) := by omega
      have HT := Lib.hid (fun (u : Int) (u0 : 0 ≤ u) (u1 : u ≤ 18446744073709551615) => rtext_any u u0 u1 w)
      clear hn hz
      go_enter Tryd.func8, Tryd.ntmps8
      go_wp2_with fail
      go_loop [4, 5] (fun m i => ∃ k n : Nat, k ≤ s.size ∧ n ≤ 18446744073709551615 ∧ i = .int .i64 k ∧ m = .int .u64 n ∧ Lib.parseUintM 18446744073709551615 0 s.data.toList = Lib.parseUintM 18446744073709551615 n (s.data.toList.drop k)) (fun _ i => s.size - (intOf i).toNat)
      case atStart => exact ⟨0, 0, by omega, by omega, rfl, rfl, rfl⟩
      case round =>
        obtain ⟨k, n, hk, hn1, rfl, rfl, hpm⟩ := hrel
        by_cases hlt : k < s.size
        · have hix : ∀ W, (Instr.index 9 (.string s) (.int .i64 (k : Int))).run Tryd.prog W = .ok (.int .u8 ((s[k].toNat : Nat) : Int)) W := fun W => by
            rw [run_index_string W 9 s .i64 (k : Int) Tryd.underlying9, dif_pos ⟨by omega, by omega⟩]
            simp
          rw [drop_at hlt] at hpm
          have hc0 : s[k].toNat < 256 := s[k].toNat_lt
          by_cases hd : 48 ≤ s[k].toNat ∧ s[k].toNat ≤ 57
          · have HD := Lib.hid hd
            by_cases hm : 18446744073709551615 < n * 10 + (s[k].toNat - 48)
            · rw [pm_rng hd hm] at hpm
              rw [hpm] at HP
              clear hpm
              generalize s[k].toNat = c at *
              have i1 : (48 : Int) ≤ (c : Int) := by omega
              have i2 : (c : Int) ≤ 57 := by omega
              have i3 : (18446744073709551615 - ((c : Int) - 48)) / 10 < (n : Int) := by omega
              have w1 := IntWalk.u8_in ((c : Int) - 48) (by omega)
              have w2 := IntWalk.u64_in ((c : Int) - 48) (by omega)
              have w3 := IntWalk.u64_in (18446744073709551615 - ((c : Int) - 48)) (by omega)
              have w4 := IntWalk.u64_in ((18446744073709551615 - ((c : Int) - 48)) / 10) (by omega)
              have ilt : (k : Int) < (s.size : Int) := by omega
              clear hd hm
              go_wp2
              go_ret2
              exact ⟨by rw [HP.out]; rfl, rfl⟩
            · rw [pm_on hd hm] at hpm
              have HM := Lib.hid hpm
              clear hpm HP
              generalize s[k].toNat = c at *
              have i1 : (48 : Int) ≤ (c : Int) := by omega
              have i2 : (c : Int) ≤ 57 := by omega
              have i3 : (n : Int) ≤ (18446744073709551615 - ((c : Int) - 48)) / 10 := by omega
              have w1 := IntWalk.u8_in ((c : Int) - 48) (by omega)
              have w2 := IntWalk.u64_in ((c : Int) - 48) (by omega)
              have w3 := IntWalk.u64_in (18446744073709551615 - ((c : Int) - 48)) (by omega)
              have w4 := IntWalk.u64_in ((18446744073709551615 - ((c : Int) - 48)) / 10) (by omega)
              have w5 := IntWalk.u64_in (10 * (n : Int)) (by omega)
              have w6 := IntWalk.u64_in (10 * (n : Int) + ((c : Int) - 48)) (by omega)
              have w7 := IntWalk.i64_in ((k : Int) + 1) (by omega)
              have ilt : (k : Int) < (s.size : Int) := by omega
              have hle : n * 10 + (c - 48) ≤ 18446744073709551615 := by omega
              have hee : (((n * 10 + (c - 48) : Nat)) : Int) = 10 * (n : Int) + ((c : Int) - 48) := by omega
              have HE := Lib.hid hee
              clear hd hm hee w7
              go_wp2
              go_round
              case rel => exact ⟨k + 1, n * 10 + (c - 48), by omega, hle, by go_num, by rw [HE.out], HM.out⟩
              case measure => simp [intOf]; omega
          · rw [pm_syn hd] at hpm
            rw [hpm] at HP
            clear hpm
            generalize s[k].toNat = c at *
            have ilt : (k : Int) < (s.size : Int) := by omega
            by_cases hc : c < 48
            · have i1 : (c : Int) < 48 := by omega
              clear hd
              go_wp2
              go_ret2
              exact ⟨by rw [HP.out]; rfl, rfl⟩
            · have i1 : (48 : Int) ≤ (c : Int) := by omega
              have i2 : (57 : Int) < (c : Int) := by omega
              clear hd
              go_wp2
              go_ret2
              exact ⟨by rw [HP.out]; rfl, rfl⟩
        · obtain rfl : k = s.size := by omega
          rw [List.drop_of_length_le (by simp)] at hpm
          rw [hpm] at HP
          clear hpm
          have hr : rpm s (Lib.parseUintM 18446744073709551615 n []) = if txt (n : Int) = s then ((n : Int), true) else (0, false) := rfl
          rw [hr] at HP
          clear hr
          have HQ := Lib.hid (HT.out (n : Int) (by omega) (by omega))
          clear HT
          by_cases hq : txt (n : Int) = s
          · rw [if_pos hq] at HP
            rw [hq] at HQ
            clear hq
            go_wp2_with (first | (go_at_call 10; refine HQ.out.mono ?_; rintro e w2 ⟨rfl, rfl⟩))
            go_ret2
            exact ⟨by rw [HP.out]; rfl, rfl⟩
          · rw [if_neg hq] at HP
            have hqb : ((txt (n : Int)).toList == s.toList) = false := beq_ne hq
            generalize txt (n : Int) = q at HQ hqb
            clear hq
            go_wp2_with (first | (go_at_call 10; refine HQ.out.mono ?_; rintro e w2 ⟨rfl, rfl⟩))
            go_ret2
            exact ⟨by rw [HP.out]; rfl, rfl⟩
/-- the two readings agree -/
theorem pres_rpres (s : ByteArray) : pres s = ((rpres s).1, if (rpres s).2 = true then 0 else 6) := by
  unfold pres rpres
  by_cases hn : s = never
  · rw [if_pos hn, if_pos hn]; rfl
  · rw [if_neg hn, if_neg hn]
    by_cases hz : s.size = 0 ∨ 20 < s.size
    · rw [if_pos hz]
      rcases hz with hz | hz
      · have h1 : s.data.toList = [] := by
          rw [← List.length_eq_zero_iff]
          simpa using hz
        rw [h1]
        rfl
      · cases hp : Lib.parseUintB 64 s.data.toList with
        | ok u =>
          have hne : ¬ txt (u : Int) = s := by
            intro h
            have hu := Lib.parseUintB_le hp
            have h20 : (txt (u : Int)).size ≤ 20 := by
              unfold txt
              split
              · decide
              · show (Lib.decDigits u).toArray.size ≤ 20
                simp only [List.size_toArray]
                rw [Lib.decDigits_length]
                by_cases h1 : 1 ≤ u
                · have := Lib.numDigits_eq u h1 (by omega); split at this <;> omega
                · obtain rfl : u = 0 := by omega
                  rw [Lib.nDigits_small (by omega)]; omega
            rw [h] at h20
            omega
          simp only [if_neg hne]
          rfl
        | «syntax» => rfl
        | range => rfl
    · rw [if_neg hz]
      have h1 : s.data.toList ≠ [] := by
        intro h
        have h2 : s.size = 0 := by
          show s.data.size = 0
          rw [← Array.length_toList, h]; rfl
        omega
      have h3 : Lib.parseUintB 64 s.data.toList = Lib.parseUintM 18446744073709551615 0 s.data.toList := by
        unfold Lib.parseUintB
        rw [if_neg h1]
      rw [h3]
      cases hp : Lib.parseUintM 18446744073709551615 0 s.data.toList with
      | ok u =>
        unfold rpm
        simp only
        by_cases hq : txt (u : Int) = s
        · simp [hq]
        · simp [hq]
      | «syntax» => rfl
      | range => rfl
end Go.Proofs.YtcbekibofgcoaaaDoor.Num
