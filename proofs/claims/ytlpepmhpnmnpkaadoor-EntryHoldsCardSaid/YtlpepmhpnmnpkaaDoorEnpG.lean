/-
  Entries (layer 4): which lines are read, no program.
-/
import Derived.Test.YtlpepmhpnmnpkaaDoorEnpF
set_option linter.unusedVariables false
set_option linter.unusedSimpArgs false
namespace Go.Proofs.YtlpepmhpnmnpkaaDoor.Ent
open Go Go.RowKit
def maxL : List UInt8 := [49, 56, 52, 52, 54, 55, 52, 52, 48, 55, 51, 55, 48, 57, 53, 53, 49, 54, 49, 53]
def neverL : List UInt8 := [110, 101, 118, 101, 114]
theorem never_str : Num.never = str neverL := rfl
theorem dec_max : Lib.decDigits 18446744073709551615 = maxL := by
  repeat (first | rfl | (rw [Lib.decDigits]; simp only [Nat.reduceLT, Nat.reduceDiv, Nat.reduceMod, Nat.reduceAdd, dif_neg, not_false_eq_true, dif_pos]))
theorem dec_first (u : Nat) : ∃ c r, Lib.decDigits u = c :: r ∧ 48 ≤ c.toNat ∧ c.toNat ≤ 57 := by
  induction u using Nat.strongRecOn with
  | _ u ih =>
    rw [Lib.decDigits]
    split
    · exact ⟨_, [], rfl, by rw [UInt8.toNat_ofNat']; omega, by rw [UInt8.toNat_ofNat']; omega⟩
    · obtain ⟨c, r, h1, h2⟩ := ih (u / 10) (by omega)
      exact ⟨c, r ++ _, by rw [h1]; rfl, h2⟩
theorem dec_never (u : Nat) : Lib.decDigits u ≠ neverL := by
  obtain ⟨c, r, h1, h2, h3⟩ := dec_first u
  rw [h1]
  intro h
  unfold neverL at h
  injection h with h4 h5
  subst h4
  revert h3; decide
theorem dec_inj {u v : Nat} (hu : u ≤ 18446744073709551615) (hv : v ≤ 18446744073709551615) (h : Lib.decDigits u = Lib.decDigits v) : u = v := by
  have h1 := Num.parseB_dec u hu
  have h2 := Num.parseB_dec v hv
  unfold Num.dec at h1 h2
  rw [h] at h1
  rw [h1] at h2
  injection h2
theorem pres_txt (d : Int) (d0 : 0 ≤ d) (d1 : d ≤ 18446744073709551615) : Num.pres (Num.txt d) = (d, 0) := by
  by_cases h : d = 18446744073709551615
  · subst h
    rw [show Num.txt 18446744073709551615 = Num.never from if_pos rfl, Num.pres_never]
  · have ht : Num.txt d = Num.dec d.toNat := if_neg h
    unfold Num.pres
    rw [ht, if_neg, Num.parseB_dec d.toNat (by omega)]
    · simp only
      rw [show ((d.toNat : Nat) : Int) = d from by omega, ht, if_pos rfl]
    · intro h2
      exact dec_never d.toNat (str_inj (a := Lib.decDigits d.toNat) (b := neverL) h2)
theorem rpres_txt (d : Int) (d0 : 0 ≤ d) (d1 : d ≤ 18446744073709551615) : Num.rpres (Num.txt d) = (d, true) := by
  have h1 := Num.pres_rpres (Num.txt d)
  rw [pres_txt d d0 d1] at h1
  obtain ⟨h2, h3⟩ := Prod.mk.inj h1
  cases hq : Num.rpres (Num.txt d) with
  | mk x y =>
    rw [hq] at h2 h3
    cases y with
    | true => rw [h2]
    | false => simp at h3
theorem pm_le : ∀ (l : List UInt8) (n u : Nat), n ≤ 18446744073709551615 → Lib.parseUintM 18446744073709551615 n l = .ok u → u ≤ 18446744073709551615
  | [], n, u, hn, h => by
    unfold Lib.parseUintM at h
    injection h with h
    omega
  | c :: r, n, u, hn, h => by
    by_cases hc : 48 ≤ c.toNat ∧ c.toNat ≤ 57
    · by_cases hm : 18446744073709551615 < n * 10 + (c.toNat - 48)
      · rw [Num.pm_rng hc hm] at h; cases h
      · rw [Num.pm_on hc hm] at h
        exact pm_le r _ u (by omega) h
    · rw [Num.pm_syn hc] at h; cases h
theorem rpres_spec (s : ByteArray) : 0 ≤ (Num.rpres s).1 ∧ (Num.rpres s).1 ≤ 18446744073709551615 ∧ ((Num.rpres s).2 = true → s = Num.txt (Num.rpres s).1) := by
  unfold Num.rpres
  split
  · next h => exact ⟨by decide, by decide, fun _ => h⟩
  · split
    · exact ⟨by decide, by decide, fun h => by cases h⟩
    · unfold Num.rpm
      split
      · next u hu =>
        have hle := pm_le _ 0 u (by omega) hu
        split
        · next ht => exact ⟨by simp, by simp; omega, fun _ => ht.symm⟩
        · exact ⟨by decide, by decide, fun h => by cases h⟩
      · exact ⟨by decide, by decide, fun h => by cases h⟩
/-- the birth number of a word -/
def birthOf (a : List UInt8) : Int × Bool := if a = maxL then (18446744073709551615, true) else if a = neverL then ((Num.rpres (str a)).1, false) else Num.rpres (str a)
theorem birth_rng (a : List UInt8) : 0 ≤ (birthOf a).1 ∧ (birthOf a).1 ≤ 18446744073709551615 := by
  have h := rpres_spec (str a)
  unfold birthOf
  split
  · exact ⟨by decide, by decide⟩
  · split
    · exact ⟨h.1, h.2.1⟩
    · exact ⟨h.1, h.2.1⟩
theorem birth_spec (a : List UInt8) (h : (birthOf a).2 = true) : a = Lib.decDigits (birthOf a).1.toNat := by
  have hs := rpres_spec (str a)
  unfold birthOf at *
  split
  · next h1 => rw [h1]; exact dec_max.symm
  · next h1 =>
    rw [if_neg h1] at h
    split
    · next h2 => rw [if_pos h2] at h; cases h
    · next h2 =>
      rw [if_neg h2] at h
      have h3 := hs.2.2 h
      unfold Num.txt at h3
      split at h3
      · exact absurd (str_inj (h3.trans never_str)) h2
      · exact str_inj h3
theorem birth_dec (b : Int) (b0 : 0 ≤ b) (b1 : b ≤ 18446744073709551615) : birthOf (Lib.decDigits b.toNat) = (b, true) := by
  unfold birthOf
  by_cases h : b = 18446744073709551615
  · subst h
    rw [if_pos]
    exact dec_max
  · rw [if_neg, if_neg (dec_never _)]
    · have ht : Num.txt b = Num.dec b.toNat := if_neg h
      have := rpres_txt b b0 b1
      rw [ht] at this
      exact this
    · intro h2
      rw [← dec_max] at h2
      have := dec_inj (by omega) (by omega) h2
      omega
structure En where
  k : ByteArray
  zs : List Int
  d : Int
  b : Int
/-- an entry that is allowed -/
structure En.ok (x : En) : Prop where
  zb : ∀ n ∈ x.zs, 0 ≤ n ∧ n < 256
  d0 : 0 ≤ x.d
  d1 : x.d ≤ 18446744073709551615
  b0 : 0 ≤ x.b
  b1 : x.b ≤ 18446744073709551615
  c : chk x.k x.zs.length x.b = 0
def En.line (x : En) : List UInt8 := rowB x.k x.zs x.d x.b
/-- what the reference reads -/
def rparse (s : List UInt8) : Option En :=
  match wordsOf s with
  | [a0, a1, a2, a3] =>
    if (birthOf a0).2 = true ∧ (Num.rpres (str a1)).2 = true ∧ (rdr a2).isSome = true ∧ (rdr a3).isSome = true ∧ chk (strOfNums ((rdr a2).getD [])) ((rdr a3).getD []).length (birthOf a0).1 = 0 then
      some ⟨strOfNums ((rdr a2).getD []), (rdr a3).getD [], (Num.rpres (str a1)).1, (birthOf a0).1⟩ else none
  | _ => none
theorem nums_str (l : List Int) (h : ∀ n ∈ l, 0 ≤ n ∧ n < 256) : nums (strOfNums l) = l := by
  unfold nums
  rw [strOfNums_data, List.map_map]
  conv => rhs; rw [← List.map_id l]
  apply List.map_congr_left
  intro n hn
  have := h n hn
  simp only [Function.comp, id]
  rw [UInt8.toNat_ofNat']
  omega
theorem rparse_line (x : En) (h : x.ok) : rparse x.line = some x := by
  have hk := nums_byte x.k
  unfold rparse En.line rowB
  rw [words_four _ _ _ _ (ns_dec _) (ns_txt _) (ns_hex _ hk) (ns_hex _ h.zb)]
  simp only
  rw [birth_dec x.b h.b0 h.b1, str_of, rpres_txt x.d h.d0 h.d1, rdr_hex _ hk, rdr_hex _ h.zb]
  simp only [Option.isSome_some, Option.getD_some, true_and]
  have he : strOfNums (nums x.k) = x.k := strOfNums_bytes x.k
  rw [he, if_pos h.c]
theorem rparse_some {s : List UInt8} {x : En} (h : rparse s = some x) : x.ok ∧ s = x.line := by
  unfold rparse at h
  split at h
  · next a0 a1 a2 a3 hw =>
    split at h
    · next hc =>
      obtain ⟨c0, c1, c2, c3, c4⟩ := hc
      obtain ⟨k, hk⟩ := Option.isSome_iff_exists.1 c2
      obtain ⟨zs, hz⟩ := Option.isSome_iff_exists.1 c3
      rw [hk, hz] at h c4
      simp only [Option.getD_some, Option.some.injEq] at h c4
      subst h
      obtain ⟨e2, b2⟩ := rdr_spec hk
      obtain ⟨e3, b3⟩ := rdr_spec hz
      have r0 := birth_rng a0
      have s0 := birth_spec a0 c0
      obtain ⟨r1, r2, r3⟩ := rpres_spec (str a1)
      have s1 := r3 c1
      refine ⟨⟨b3, r1, r2, r0.1, r0.2, c4⟩, ?_⟩
      rw [words_join hw]
      unfold En.line rowB
      simp only
      rw [← s0, ← s1, nums_str k b2, ← e2, ← e3]
      rfl
    · cases h
  · cases h
/-- what the program reads -/
def eparse (s : List UInt8) : Option En :=
  let c0 := Lib.cut s [32]
  let c1 := Lib.cut c0.2.1 [32]
  let c2 := Lib.cut c1.2.1 [32]
  let c3 := Lib.cut c2.2.1 [32]
  match Lib.parseUintB 64 c0.1, Num.pres (str c1.1), rdh c2.1, rdh c3.1 with
  | .ok u, (d, 0), some k, some zs => if chk (strOfNums k) zs.length (u : Int) = 0 ∧ (⟨strOfNums k, zs, d, (u : Int)⟩ : En).line = s then some ⟨strOfNums k, zs, d, (u : Int)⟩ else none
  | _, _, _, _ => none
theorem eparse_line (x : En) (h : x.ok) : eparse x.line = some x := by
  have hk := nums_byte x.k
  have hl : x.line = Lib.decDigits x.b.toNat ++ 32 :: ((Num.txt x.d).data.toList ++ 32 :: (hexB (nums x.k) ++ 32 :: hexB x.zs)) := rfl
  unfold eparse
  have e0 : Lib.cut x.line [32] = (Lib.decDigits x.b.toNat, (Num.txt x.d).data.toList ++ 32 :: (hexB (nums x.k) ++ 32 :: hexB x.zs), true) := by rw [hl]; exact cut_ns _ _ (ns_dec _)
  rw [e0]
  simp only
  rw [cut_ns _ _ (ns_txt _)]
  simp only
  rw [cut_ns _ _ (ns_hex _ hk)]
  simp only
  rw [cut_all _ (ns_hex _ h.zb)]
  simp only
  have hp := Num.parseB_dec x.b.toNat (by have := h.b1; omega)
  have hp' : Lib.parseUintB 64 (Lib.decDigits x.b.toNat) = .ok x.b.toNat := hp
  rw [hp', str_of, pres_txt x.d h.d0 h.d1, rdh_hex _ hk, rdh_hex _ h.zb]
  simp only
  have he : strOfNums (nums x.k) = x.k := strOfNums_bytes x.k
  have hb : ((x.b.toNat : Nat) : Int) = x.b := by have := h.b0; omega
  rw [he, hb, if_pos ⟨h.c, rfl⟩]
theorem pres_rng (s : ByteArray) : 0 ≤ (Num.pres s).1 ∧ (Num.pres s).1 ≤ 18446744073709551615 := by
  have h1 := Num.pres_rpres s
  have h2 := rpres_spec s
  rw [h1]
  exact ⟨h2.1, h2.2.1⟩
theorem eparse_some {s : List UInt8} {x : En} (h : eparse s = some x) : x.ok ∧ s = x.line := by
  unfold eparse at h
  simp only at h
  split at h
  · next u d k zs h0 h1 h2 h3 =>
    split at h
    · next hc =>
      cases h
      have hr := pres_rng (str (Lib.cut (Lib.cut s [32]).2.1 [32]).1)
      rw [h1] at hr
      have hu := Lib.parseUintB_le h0
      exact ⟨⟨(rdh_bytes h3).1, hr.1, hr.2, by simp, by simp; omega, hc.1⟩, hc.2.symm⟩
    · cases h
  · cases h
/-- both read the same -/
theorem parse_same (s : List UInt8) : eparse s = rparse s := by
  cases he : eparse s with
  | some x =>
    obtain ⟨h1, rfl⟩ := eparse_some he
    exact (rparse_line x h1).symm
  | none =>
    cases hr : rparse s with
    | none => rfl
    | some x =>
      obtain ⟨h1, rfl⟩ := rparse_some hr
      rw [eparse_line x h1] at he
      cases he
end Go.Proofs.YtlpepmhpnmnpkaaDoor.Ent
