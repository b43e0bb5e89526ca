/-
  Entries (layer 4): reading a text, no program.
-/
import Derived.Test.YtlpepmhpnmnpkaaDoorEntU
import Derived.Test.YtlpepmhpnmnpkaaDoorNumP
import Derived.Lib.IndexMore
set_option linter.unusedVariables false
set_option linter.unusedSimpArgs false
namespace Go.Proofs.YtlpepmhpnmnpkaaDoor.Ent
open Go Go.RowKit
/-- bytes as a string -/
def str (l : List UInt8) : ByteArray := ⟨l.toArray⟩
theorem str_size (l : List UInt8) : (str l).size = l.length := by simp [str, ByteArray.size]
theorem str_data (l : List UInt8) : (str l).data.toList = l := rfl
theorem str_of (s : ByteArray) : str s.data.toList = s := rfl
theorem str_append (a b : List UInt8) : str a ++ str b = str (a ++ b) := by
  apply ByteArray.ext
  rw [ByteArray.data_append]
  simp [str]
theorem str_inj {a b : List UInt8} (h : str a = str b) : a = b := by
  have := congrArg (fun s : ByteArray => s.data.toList) h
  exact this
theorem str_drop (l : List UInt8) (n : Nat) : (str l).extract n (str l).size = str (l.drop n) := by
  apply ByteArray.ext
  rw [ByteArray.data_extract, str_size]
  simp only [str]
  apply Array.ext'
  rw [Array.toList_extract]
  rw [List.extract_eq_take_drop]
  exact List.take_of_length_le (by simp)
/-- numbers as bytes -/
def toB (l : List Int) : List UInt8 := l.map fun n => UInt8.ofNat n.toNat
theorem str_toB (l : List Int) : str (toB l) = strOfNums l := rfl
theorem toB_append (a b : List Int) : toB (a ++ b) = toB a ++ toB b := List.map_append
theorem toB_nums (s : ByteArray) : toB (nums s) = s.data.toList := by
  unfold toB nums
  rw [List.map_map]
  conv => rhs; rw [← List.map_id s.data.toList]
  apply List.map_congr_left
  intro b _
  simp
/-- one more than what a digit stands for, or 0 -/
def dgt (c : UInt8) : Nat := if 48 ≤ c.toNat ∧ c.toNat ≤ 57 then c.toNat - 47 else if 97 ≤ c.toNat ∧ c.toNat ≤ 102 then c.toNat - 86 else 0
theorem dgt_le (c : UInt8) : dgt c ≤ 16 := by unfold dgt; split <;> (try split) <;> omega
theorem dgt_hx (d : Int) (h0 : 0 ≤ d) (h1 : d < 16) : dgt (UInt8.ofNat (hx d).toNat) = d.toNat + 1 := by
  have hb := hx_byte d h0 h1
  have e : (UInt8.ofNat (hx d).toNat).toNat = (hx d).toNat := by rw [UInt8.toNat_ofNat']; omega
  unfold dgt
  rw [e]
  unfold hx at *
  split at hb
  · rw [if_pos (by omega)]; split <;> omega
  · rw [if_neg (by split <;> omega), if_pos (by split <;> omega)]; split <;> omega
theorem hx_dgt (c : UInt8) (h : dgt c ≠ 0) : c = UInt8.ofNat (hx ((dgt c : Int) - 1)).toNat := by
  apply UInt8.toNat.inj
  rw [UInt8.toNat_ofNat']
  unfold dgt at *
  unfold hx
  split
  · next h1 => rw [if_pos (by omega)]; omega
  · next h1 =>
    split
    · next h2 => rw [if_neg (by omega)]; omega
    · next h2 => rw [if_neg h1, if_neg h2] at h; exact absurd rfl h
/-- the bytes of two digits each -/
def unhex : List UInt8 → Option (List Int)
  | [] => some []
  | [_] => none
  | a :: b :: r => if dgt a = 0 ∨ dgt b = 0 then none else (unhex r).map fun l => ((16 * (dgt a - 1) + (dgt b - 1) : Nat) : Int) :: l
theorem unhex_hex : ∀ (l : List Int), (∀ n ∈ l, 0 ≤ n ∧ n < 256) → unhex (toB (hexL l)) = some l
  | [], _ => rfl
  | z :: l, h => by
    have hz := h z (by simp)
    have h1 := dgt_hx (z / 16) (by omega) (by omega)
    have h2 := dgt_hx (z % 16) (by omega) (by omega)
    show unhex (UInt8.ofNat (hx (z / 16)).toNat :: UInt8.ofNat (hx (z % 16)).toNat :: toB (hexL l)) = _
    rw [unhex, h1, h2, if_neg (by omega), unhex_hex l fun n hn => h n (by simp [hn])]
    simp only [Option.map_some, Option.some.injEq, List.cons.injEq, and_true]
    omega
theorem hex_unhex : ∀ (s : List UInt8) (l : List Int), unhex s = some l → s = toB (hexL l) ∧ (∀ n ∈ l, 0 ≤ n ∧ n < 256) ∧ s.length = 2 * l.length
  | [], l, h => by
    simp only [unhex, Option.some.injEq] at h
    subst h
    exact ⟨rfl, by simp, rfl⟩
  | [_], l, h => by simp [unhex] at h
  | a :: b :: r, l, h => by
    rw [unhex] at h
    split at h
    · cases h
    · next hd =>
      simp only [Option.map_eq_some_iff] at h
      obtain ⟨l', h1, rfl⟩ := h
      obtain ⟨e1, e2, e3⟩ := hex_unhex r l' h1
      have la := dgt_le a
      have lb := dgt_le b
      have ha := hx_dgt a (by omega)
      have hb := hx_dgt b (by omega)
      refine ⟨?_, fun n hn => ?_, by simp only [List.length_cons]; omega⟩
      · show a :: b :: r = UInt8.ofNat (hx (((16 * (dgt a - 1) + (dgt b - 1) : Nat) : Int) / 16)).toNat :: UInt8.ofNat (hx (((16 * (dgt a - 1) + (dgt b - 1) : Nat) : Int) % 16)).toNat :: toB (hexL l')
        rw [← e1, show ((16 * (dgt a - 1) + (dgt b - 1) : Nat) : Int) / 16 = (dgt a : Int) - 1 by omega, show ((16 * (dgt a - 1) + (dgt b - 1) : Nat) : Int) % 16 = (dgt b : Int) - 1 by omega, ← ha, ← hb]
      · rcases List.mem_cons.1 hn with rfl | hn
        · omega
        · exact e2 n hn
theorem unhex_len {s : List UInt8} {l : List Int} (h : unhex s = some l) : s.length = 2 * l.length := (hex_unhex s l h).2.2
theorem unhex_odd : ∀ (s : List UInt8), s.length % 2 = 1 → unhex s = none
  | [], h => by simp at h
  | [_], _ => rfl
  | a :: b :: r, h => by
    rw [unhex]
    split
    · rfl
    · rw [unhex_odd r (by simp only [List.length_cons] at h; omega)]; rfl
/-- what the program reads of a word of digits -/
def rdh (s : List UInt8) : Option (List Int) := if s = [45] then some [] else unhex s
/-- what the reference reads -/
def rdr (s : List UInt8) : Option (List Int) := if s = [45] then some [] else if s = [] then none else unhex s
def hexB (l : List Int) : List UInt8 := toB (hexT l)
theorem hexB_nil : hexB [] = [45] := by decide
theorem hexB_cons {l : List Int} (h : l ≠ []) : hexB l = toB (hexL l) := by unfold hexB hexT; rw [if_neg h]
theorem hexL_ne {l : List Int} (h : l ≠ []) : hexL l ≠ [] := by
  cases l with
  | nil => exact absurd rfl h
  | cons z l => simp [hexL]
theorem hexL_not (l : List Int) : toB (hexL l) ≠ [45] := by
  intro h
  have := congrArg List.length h
  unfold toB at this
  rw [List.length_map, hexL_length] at this
  simp at this
  omega
theorem rdh_hex (l : List Int) (h : ∀ n ∈ l, 0 ≤ n ∧ n < 256) : rdh (hexB l) = some l := by
  unfold rdh
  by_cases hl : l = []
  · subst hl; rw [hexB_nil, if_pos rfl]
  · rw [hexB_cons hl, if_neg (hexL_not l), unhex_hex l h]
theorem rdr_hex (l : List Int) (h : ∀ n ∈ l, 0 ≤ n ∧ n < 256) : rdr (hexB l) = some l := by
  unfold rdr
  by_cases hl : l = []
  · subst hl; rw [hexB_nil, if_pos rfl]
  · rw [hexB_cons hl, if_neg (hexL_not l), unhex_hex l h, if_neg]
    intro h2
    have := congrArg List.length h2
    unfold toB at this
    rw [List.length_map] at this
    exact hexL_ne hl (List.length_eq_zero_iff.1 this)
theorem rdr_spec {s : List UInt8} {l : List Int} (h : rdr s = some l) : s = hexB l ∧ ∀ n ∈ l, 0 ≤ n ∧ n < 256 := by
  unfold rdr at h
  split at h
  · next h1 => cases h; exact ⟨by rw [h1, hexB_nil], by simp⟩
  · split at h
    · cases h
    · next h1 h2 =>
      obtain ⟨e1, e2, e3⟩ := hex_unhex s l h
      refine ⟨?_, e2⟩
      rw [hexB_cons]
      · exact e1
      · rintro rfl
        exact h2 (List.length_eq_zero_iff.1 (by simpa using e3))
theorem rdh_bytes {s : List UInt8} {l : List Int} (h : rdh s = some l) : (∀ n ∈ l, 0 ≤ n ∧ n < 256) ∧ 2 * l.length ≤ s.length := by
  unfold rdh at h
  split at h
  · cases h; exact ⟨by simp, by simp⟩
  · obtain ⟨-, e2, e3⟩ := hex_unhex s l h
    exact ⟨e2, by omega⟩
/-- no space -/
def ns (l : List UInt8) : Prop := ∀ x ∈ l, x ≠ 32
theorem cut_ns (l r : List UInt8) (h : ns l) : Lib.cut (l ++ 32 :: r) [32] = (l, r, true) := by
  have h : Lib.index (l ++ 32 :: r) [32] = (l.length : Int) := by
    refine Lib.index_first (i := l.length) (by simp) ?_ ?_
    · unfold Lib.occAt
      rw [List.drop_left]
      exact List.isPrefixOf_iff_prefix.2 (List.prefix_append [32] r)
    · intro j hj
      cases hq : Lib.occAt (l ++ 32 :: r) [32] j with
      | false => rfl
      | true =>
        exfalso
        have h1 := Lib.occAt_head rfl hq
        rw [List.getElem?_append_left hj] at h1
        exact h 32 (List.mem_of_getElem? h1) rfl
  unfold Lib.cut
  rw [h, if_pos (by omega)]
  simp
theorem cut_all (l : List UInt8) (h : ns l) : Lib.cut l [32] = (l, [], false) := by
  have hi : Lib.index l [32] = -1 := by
    rcases Lib.index_spec l [32] with ⟨h1, -⟩ | ⟨i, -, -, h3, -⟩
    · exact h1
    · have h1 := Lib.occAt_head rfl h3
      exact absurd rfl (h 32 (List.mem_of_getElem? h1))
  unfold Lib.cut
  rw [hi, if_neg (by omega)]
theorem cut1_le (s x : List UInt8) : (Lib.cut s x).1.length ≤ s.length := by
  unfold Lib.cut
  split
  · simp only [List.length_take]; omega
  · exact Nat.le_refl _
theorem cut2_le (s x : List UInt8) : (Lib.cut s x).2.1.length ≤ s.length := by
  unfold Lib.cut
  split
  · simp only [List.length_drop]; omega
  · simp
theorem ns_dec (u : Nat) : ns (Lib.decDigits u) := by
  induction u using Nat.strongRecOn with
  | _ u ih =>
    rw [Lib.decDigits]
    split
    · intro x hx
      simp only [List.mem_singleton] at hx
      subst hx
      intro h
      have := congrArg UInt8.toNat h
      rw [UInt8.toNat_ofNat'] at this
      simp at this
      omega
    · intro x hx
      rcases List.mem_append.1 hx with hx | hx
      · exact ih (u / 10) (by omega) x hx
      · simp only [List.mem_singleton] at hx
        subst hx
        intro h
        have := congrArg UInt8.toNat h
        rw [UInt8.toNat_ofNat'] at this
        simp at this
        omega
theorem ns_txt (d : Int) : ns (Num.txt d).data.toList := by
  unfold Num.txt
  split
  · intro x hx
    simp [Num.never] at hx
    rcases hx with rfl | rfl | rfl | rfl | rfl <;> decide
  · exact ns_dec d.toNat
theorem ns_hex (l : List Int) (h : ∀ n ∈ l, 0 ≤ n ∧ n < 256) : ns (hexB l) := by
  have key : ∀ (l : List Int), (∀ n ∈ l, 0 ≤ n ∧ n < 256) → ns (toB (hexL l)) := by
    intro l
    induction l with
    | nil => intro _ x hx; simp [toB, hexL] at hx
    | cons z l ih =>
      intro h x hmx
      have hz := h z (by simp)
      have one : ∀ d : Int, 0 ≤ d → d < 16 → UInt8.ofNat (hx d).toNat ≠ 32 := fun d d0 d1 he => by
        have h1 := dgt_hx d d0 d1
        rw [he] at h1
        have : dgt 32 = 0 := by decide
        omega
      have hx' : x = UInt8.ofNat (hx (z / 16)).toNat ∨ x = UInt8.ofNat (hx (z % 16)).toNat ∨ x ∈ toB (hexL l) := by
        simpa [toB, hexL] using hmx
      rcases hx' with rfl | rfl | hx'
      · exact one _ (by omega) (by omega)
      · exact one _ (by omega) (by omega)
      · exact ih (fun n hn => h n (by simp [hn])) x hx'
  by_cases hl : l = []
  · subst hl; rw [hexB_nil]; intro x hx; simp at hx; subst hx; decide
  · rw [hexB_cons hl]; exact key l h
/-- the text of an entry -/
def rowB (k : ByteArray) (zs : List Int) (d b : Int) : List UInt8 := Lib.decDigits b.toNat ++ 32 :: ((Num.txt d).data.toList ++ 32 :: (hexB (nums k) ++ 32 :: hexB zs))
theorem rowB_eq (k : ByteArray) (zs : List Int) (d b : Int) : strOfNums (rowT k zs d b) = str (rowB k zs d b) := by
  rw [← str_toB]
  congr 1
  unfold rowT rowB
  simp only [toB_append, toB_nums]
  show (Lib.decDigits b.toNat ++ toB [32] ++ (Num.txt d).data.toList ++ toB [32] ++ toB (hexT (nums k)) ++ toB [32] ++ toB (hexT zs)) = _
  have : toB [32] = [32] := by decide
  rw [this]
  simp [hexB, List.append_assoc]
end Go.Proofs.YtlpepmhpnmnpkaaDoor.Ent
