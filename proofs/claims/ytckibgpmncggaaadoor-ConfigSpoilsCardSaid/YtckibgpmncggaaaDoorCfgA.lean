/-
  Configurations (layer 23): texts and numbers, no program.
-/
import Derived.Lib.IndexMore
import Derived.Lib.ParseIntBCases
import Derived.Lib.ItoaMem
set_option linter.unusedVariables false
set_option linter.unusedSimpArgs false
namespace Go.Proofs.YtckibgpmncggaaaDoor.Cfg
open Go
def w0 : List UInt8 := [99, 111, 117, 110, 116, 61]
def w1 : List UInt8 := [32, 98, 121, 116, 101, 115, 61]
def w2 : List UInt8 := [32, 112, 114, 111, 116, 101, 99, 116, 101, 100, 61]
def w3 : List UInt8 := [32, 115, 101, 101, 100, 61]
def w4 : List UInt8 := [32, 115, 97, 109, 101, 61]
def yes : List UInt8 := [121, 101, 115]
def no : List UInt8 := [110, 111]
/-- the text of a configuration -/
def T (a b c d : Nat) (y : Bool) : List UInt8 := w0 ++ (Lib.decDigits a ++ (w1 ++ (Lib.decDigits b ++ (w2 ++ (Lib.decDigits c ++ (w3 ++ (Lib.decDigits d ++ (w4 ++ if y then yes else no))))))))
def dig (l : List UInt8) : Prop := ∀ x ∈ l, 48 ≤ x.toNat ∧ x.toNat ≤ 57
theorem dig_dec (u : Nat) : dig (Lib.decDigits u) := by
  induction u using Nat.strongRecOn with
  | _ u ih =>
    rw [Lib.decDigits]
    split
    · intro x hx
      simp only [List.mem_singleton] at hx
      subst hx
      rw [UInt8.toNat_ofNat']; omega
    · intro x hx
      rcases List.mem_append.1 hx with hx | hx
      · exact ih (u / 10) (by omega) x hx
      · simp only [List.mem_singleton] at hx
        subst hx
        rw [UInt8.toNat_ofNat']; omega
theorem cut_pre (s x : List UInt8) (hs : s ≠ []) : Lib.cut (s ++ x) s = ([], x, true) := by
  have h : Lib.index (s ++ x) s = 0 := by
    refine Lib.index_first (i := 0) (Nat.zero_le _) ?_ (by intro j hj; omega)
    unfold Lib.occAt
    rw [List.drop_zero]
    exact List.isPrefixOf_iff_prefix.2 (List.prefix_append _ _)
  unfold Lib.cut
  rw [h]
  simp
theorem cut_dig (l t r : List UInt8) (h : dig l) : Lib.cut (l ++ ((32 :: t) ++ r)) (32 :: t) = (l, r, true) := by
  have h : Lib.index (l ++ ((32 :: t) ++ r)) (32 :: t) = (l.length : Int) := by
    refine Lib.index_first (i := l.length) (by simp) ?_ ?_
    · unfold Lib.occAt
      rw [List.drop_left]
      exact List.isPrefixOf_iff_prefix.2 (List.prefix_append _ _)
    · intro j hj
      cases hq : Lib.occAt (l ++ ((32 :: t) ++ r)) (32 :: t) j with
      | false => rfl
      | true =>
        exfalso
        have h1 := Lib.occAt_head rfl hq
        rw [List.getElem?_append_left hj] at h1
        have h2 := h 32 (List.mem_of_getElem? h1)
        revert h2; decide
  unfold Lib.cut
  rw [h, if_pos (by omega)]
  simp
/-- what ParseUint gives, whether or not with an error -/
def val (l : List UInt8) : Nat := match Lib.parseUintB 64 l with | .ok u => u | .syntax => 0 | .range => 18446744073709551615
theorem parse_dec (u : Nat) : ∀ l, u ≤ 18446744073709551615 → Lib.parseUintM 18446744073709551615 0 (Lib.decDigits u ++ l) = Lib.parseUintM 18446744073709551615 u l := by
  induction u using Nat.strongRecOn with
  | _ u ih =>
    intro l hu
    by_cases h : u < 10
    · rw [Lib.decDigits_one h]
      have e : (UInt8.ofNat (48 + u)).toNat = 48 + u := by rw [UInt8.toNat_ofNat']; omega
      show Lib.parseUintM _ 0 (UInt8.ofNat (48 + u) :: l) = _
      rw [Lib.parseUintM, e, if_pos (by omega), if_neg (by omega), if_neg (by omega), show 0 * 10 + (48 + u - 48) = u by omega]
    · have h1 : u % 10 < 10 := Nat.mod_lt _ (by decide)
      have e2 : Lib.decDigits u = Lib.decDigits (u / 10) ++ [UInt8.ofNat (48 + u % 10)] := by
        conv => lhs; rw [Lib.decDigits]
        rw [dif_neg h]
      have e : (UInt8.ofNat (48 + u % 10)).toNat = 48 + u % 10 := by rw [UInt8.toNat_ofNat']; omega
      rw [e2, List.append_assoc, ih (u / 10) (by omega) _ (by omega)]
      show Lib.parseUintM _ (u / 10) (UInt8.ofNat (48 + u % 10) :: l) = _
      rw [Lib.parseUintM, e, if_pos (by omega), if_neg (by omega), if_neg (by omega), show u / 10 * 10 + (48 + u % 10 - 48) = u by omega]
theorem dec_ne (u : Nat) : Lib.decDigits u ≠ [] := by
  rw [Lib.decDigits]
  split <;> simp
theorem val_dec (u : Nat) (hu : u ≤ 18446744073709551615) : val (Lib.decDigits u) = u := by
  unfold val Lib.parseUintB
  rw [if_neg (dec_ne u)]
  have h := parse_dec u [] hu
  rw [List.append_nil] at h
  show (match Lib.parseUintM 18446744073709551615 0 (Lib.decDigits u) with | .ok u => u | .syntax => 0 | .range => 18446744073709551615) = u
  rw [h]
  rfl
theorem val_le (l : List UInt8) : val l ≤ 18446744073709551615 := by
  unfold val
  split
  · rename_i u h
    exact Lib.parseUintB_le h
  · omega
  · omega
/-- one turn of the program's reading -/
def st (w w' s : List UInt8) : Nat × List UInt8 := (val (Lib.cut (Lib.cut s w).2.1 w').1, (Lib.cut s w).2.1.drop (Lib.cut (Lib.cut s w).2.1 w').1.length)
theorem st_ok (w t x : List UInt8) (u : Nat) (hw : w ≠ []) (hu : u ≤ 18446744073709551615) : st w (32 :: t) (w ++ (Lib.decDigits u ++ ((32 :: t) ++ x))) = (u, (32 :: t) ++ x) := by
  unfold st
  rw [cut_pre _ _ hw]
  show (val (Lib.cut (Lib.decDigits u ++ ((32 :: t) ++ x)) (32 :: t)).1, _) = _
  rw [cut_dig _ _ _ (dig_dec u)]
  show (val (Lib.decDigits u), List.drop (Lib.decDigits u).length _) = _
  rw [val_dec u hu, List.drop_left]
/-- what the program reads -/
structure Rd where (a b c d : Nat) (y : Bool)
def rd (s : List UInt8) : Rd :=
  let p := st w0 w1 s
  let q := st w1 w2 p.2
  let r := st w2 w3 q.2
  let t := st w3 w4 r.2
  ⟨p.1, q.1, r.1, t.1, Lib.hasSuffix t.2 yes⟩
theorem rd_T (a b c d : Nat) (y : Bool) (ha : a ≤ 18446744073709551615) (hb : b ≤ 18446744073709551615) (hc : c ≤ 18446744073709551615) (hd : d ≤ 18446744073709551615) : rd (T a b c d y) = ⟨a, b, c, d, y⟩ := by
  unfold rd T
  have e1 := st_ok w0 [98, 121, 116, 101, 115, 61] (Lib.decDigits b ++ (w2 ++ (Lib.decDigits c ++ (w3 ++ (Lib.decDigits d ++ (w4 ++ if y then yes else no)))))) a (by decide) ha
  have e2 := st_ok w1 [112, 114, 111, 116, 101, 99, 116, 101, 100, 61] (Lib.decDigits c ++ (w3 ++ (Lib.decDigits d ++ (w4 ++ if y then yes else no)))) b (by decide) hb
  have e3 := st_ok w2 [115, 101, 101, 100, 61] (Lib.decDigits d ++ (w4 ++ if y then yes else no)) c (by decide) hc
  have e4 := st_ok w3 [115, 97, 109, 101, 61] (if y then yes else no) d (by decide) hd
  show Rd.mk (st w0 w1 _).1 (st w1 w2 (st w0 w1 _).2).1 _ _ _ = _
  rw [show st w0 w1 (w0 ++ (Lib.decDigits a ++ (w1 ++ (Lib.decDigits b ++ (w2 ++ (Lib.decDigits c ++ (w3 ++ (Lib.decDigits d ++ (w4 ++ if y then yes else no))))))))) = (a, w1 ++ (Lib.decDigits b ++ (w2 ++ (Lib.decDigits c ++ (w3 ++ (Lib.decDigits d ++ (w4 ++ if y then yes else no))))))) from e1]
  show Rd.mk a (st w1 w2 _).1 (st w2 w3 (st w1 w2 _).2).1 _ _ = _
  rw [show st w1 w2 (w1 ++ (Lib.decDigits b ++ (w2 ++ (Lib.decDigits c ++ (w3 ++ (Lib.decDigits d ++ (w4 ++ if y then yes else no))))))) = (b, w2 ++ (Lib.decDigits c ++ (w3 ++ (Lib.decDigits d ++ (w4 ++ if y then yes else no))))) from e2]
  show Rd.mk a b (st w2 w3 _).1 (st w3 w4 (st w2 w3 _).2).1 _ = _
  rw [show st w2 w3 (w2 ++ (Lib.decDigits c ++ (w3 ++ (Lib.decDigits d ++ (w4 ++ if y then yes else no))))) = (c, w3 ++ (Lib.decDigits d ++ (w4 ++ if y then yes else no))) from e3]
  show Rd.mk a b c (st w3 w4 _).1 (Lib.hasSuffix (st w3 w4 _).2 yes) = _
  rw [show st w3 w4 (w3 ++ (Lib.decDigits d ++ (w4 ++ if y then yes else no))) = (d, w4 ++ if y then yes else no) from e4]
  cases y <;> rfl
/-- one byte of the reference's reading -/
def nm (p : List Int × Bool) (x : UInt8) : List Int × Bool :=
  if x.toNat < 48 ∨ 57 < x.toNat then (p.1, false)
  else if p.2 then (p.1.set (p.1.length - 1) (IntKind.u64.wrap (IntKind.u64.wrap (10 * (p.1[p.1.length - 1]?).getD 0) + ((x.toNat : Int) - 48))), true)
  else (p.1 ++ [(x.toNat : Int) - 48], true)
def nums (s : List UInt8) : List Int := (s.foldl nm ([], false)).1
theorem nm_word (l : List UInt8) (h : ∀ x ∈ l, x.toNat < 48 ∨ 57 < x.toNat) (hn : l ≠ []) (p : List Int × Bool) : l.foldl nm p = (p.1, false) := by
  induction l generalizing p with
  | nil => exact absurd rfl hn
  | cons x l ih =>
    have hx : nm p x = (p.1, false) := if_pos (h x (by simp))
    rw [List.foldl_cons, hx]
    by_cases hl : l = []
    · subst hl; rfl
    · exact ih (fun y hy => h y (by simp [hy])) hl _
theorem wrap64u (z : Int) (h0 : 0 ≤ z) (h1 : z < 18446744073709551616) : IntKind.u64.wrap z = z := by
  show z % 18446744073709551616 = z
  omega
theorem nm_dec (u : Nat) (l : List Int) (hu : u ≤ 18446744073709551615) : (Lib.decDigits u).foldl nm (l, false) = (l ++ [(u : Int)], true) := by
  induction u using Nat.strongRecOn with
  | _ u ih =>
    rw [Lib.decDigits]
    split
    · rename_i h
      have e : (UInt8.ofNat (48 + u)).toNat = 48 + u := by rw [UInt8.toNat_ofNat']; omega
      show nm (l, false) (UInt8.ofNat (48 + u)) = _
      unfold nm
      rw [e, if_neg (by omega)]
      simp
      omega
    · rename_i h
      have e : (UInt8.ofNat (48 + u % 10)).toNat = 48 + u % 10 := by rw [UInt8.toNat_ofNat']; omega
      rw [List.foldl_append, ih (u / 10) (by omega) (by omega)]
      show nm (l ++ [((u / 10 : Nat) : Int)], true) (UInt8.ofNat (48 + u % 10)) = _
      unfold nm
      rw [e, if_neg (by omega), if_pos rfl]
      simp only [List.length_append, List.length_cons, List.length_nil, Nat.zero_add, Nat.add_sub_cancel]
      rw [List.getElem?_append_right (Nat.le_refl _), Nat.sub_self]
      show ((l ++ [((u / 10 : Nat) : Int)]).set l.length (IntKind.u64.wrap (IntKind.u64.wrap (10 * ((u / 10 : Nat) : Int)) + (((48 + u % 10 : Nat) : Int) - 48))), true) = _
      rw [wrap64u (10 * ((u / 10 : Nat) : Int)) (by omega) (by omega), wrap64u _ (by omega) (by omega), show (10 * ((u / 10 : Nat) : Int) + (((48 + u % 10 : Nat) : Int) - 48)) = (u : Int) from by omega]
      rw [List.set_append_right _ _ (Nat.le_refl _), Nat.sub_self]
      rfl
theorem nums_T (a b c d : Nat) (y : Bool) (ha : a ≤ 18446744073709551615) (hb : b ≤ 18446744073709551615) (hc : c ≤ 18446744073709551615) (hd : d ≤ 18446744073709551615) : nums (T a b c d y) = [(a : Int), b, c, d] := by
  unfold nums T
  rw [List.foldl_append, nm_word w0 (by decide) (by decide), List.foldl_append, nm_dec a _ ha, List.foldl_append, nm_word w1 (by decide) (by decide), List.foldl_append, nm_dec b _ hb, List.foldl_append, nm_word w2 (by decide) (by decide), List.foldl_append, nm_dec c _ hc, List.foldl_append, nm_word w3 (by decide) (by decide), List.foldl_append, nm_dec d _ hd, List.foldl_append, nm_word w4 (by decide) (by decide)]
  cases y
  · rw [nm_word _ (by decide) (by decide)]; rfl
  · rw [nm_word _ (by decide) (by decide)]; rfl
theorem nm_range (p : List Int × Bool) (x : UInt8) (h : ∀ z ∈ p.1, 0 ≤ z ∧ z < 18446744073709551616) : ∀ z ∈ (nm p x).1, 0 ≤ z ∧ z < 18446744073709551616 := by
  have hx := x.toNat_lt
  unfold nm
  split
  · exact h
  · split
    · intro z hz
      rcases List.mem_or_eq_of_mem_set hz with hz | rfl
      · exact h z hz
      · show 0 ≤ _ % (18446744073709551616 : Int) ∧ _ % (18446744073709551616 : Int) < _
        omega
    · intro z hz
      rcases List.mem_append.1 hz with hz | hz
      · exact h z hz
      · simp only [List.mem_singleton] at hz
        omega
theorem fold_range (l : List UInt8) : ∀ (p : List Int × Bool), (∀ z ∈ p.1, 0 ≤ z ∧ z < 18446744073709551616) → ∀ z ∈ (l.foldl nm p).1, 0 ≤ z ∧ z < 18446744073709551616 := by
  induction l with
  | nil => exact fun p h => h
  | cons x l ih => exact fun p h => ih _ (nm_range p x h)
theorem nums_range (s : List UInt8) : ∀ z ∈ nums s, 0 ≤ z ∧ z < 18446744073709551616 := fold_range s _ (by simp)
end Go.Proofs.YtckibgpmncggaaaDoor.Cfg
