/-
  Walks over package sketch: adding a key, copies.
-/
import Derived.Test.YtohldfhelppehaaSkN
import Derived.Test.YtohldfhelppehaaBloR
set_option linter.unusedVariables false
set_option linter.unusedSimpArgs false
namespace Go.Proofs.Ytohldfhelppehaa.Skt
open Go.RowKit Kit Hash Blo
/-- what adding has done so far -/
def midA (F : Nat → Nat → Nat) (x n r : Nat) : Nat → Nat → Nat := fun a b => if a < r ∧ b = pl4 x n a then min 15 (F a b + 1) else F a b
theorem midA_at (F : Nat → Nat → Nat) (x n r b : Nat) : midA F x n r r b = F r b := by unfold midA; rw [if_neg (by omega)]
theorem midA_step (F : Nat → Nat → Nat) (x n r : Nat) : (fun a b => if a = r ∧ b = pl4 x n r then min 15 (F r (pl4 x n r) + 1) else midA F x n r a b) = midA F x n (r + 1) := by
  funext a b
  unfold midA
  by_cases h : a = r ∧ b = pl4 x n r
  · obtain ⟨rfl, rfl⟩ := h; rw [if_pos ⟨rfl, rfl⟩, if_pos ⟨by omega, rfl⟩]
  · rw [if_neg h]
    by_cases h2 : a < r ∧ b = pl4 x n a
    · rw [if_pos h2, if_pos ⟨by omega, h2.2⟩]
    · rw [if_neg h2, if_neg]
      rintro ⟨h3, h4⟩
      rcases Nat.lt_or_ge a r with h5 | h5
      · exact h2 ⟨h5, h4⟩
      · obtain rfl : a = r := by omega
        exact h ⟨rfl, h4⟩
theorem midA_end (F : Nat → Nat → Nat) (x n m : Nat) (a : Nat) (ha : a < 4) (b : Nat) (hb : b < m) : midA F x n 4 a b = addF F x n a b := by
  unfold midA addF
  by_cases h : b = pl4 x n a
  · rw [if_pos ⟨ha, h⟩, if_pos h]
  · rw [if_neg (fun k => h k.2), if_neg h]
/-- whether adding halves -/
def hv (m t : Int) : Bool := !(m == 0) && (t + 1 == m)
def tA (m t : Int) : Int := if hv m t then (t + 1) / 2 else t + 1
def FA (m t : Int) (F : Nat → Nat → Nat) (x n : Nat) : Nat → Nat → Nat := if hv m t then halF (addF F x n) else addF F x n
set_option maxRecDepth 100000 in
set_option maxHeartbeats 2000000 in
theorem padd {W : World} {p lo hi n : Nat} {m t sd : Int} (hs : Word sd) {q c : Nat → Nat} {F : Nat → Nat → Nat} (h : Skf W p lo hi n m t sd q c F) (n1 : 16 ≤ n) (n2 : n ≤ 65536) (hF : ∀ i j, F i j ≤ 15) (ht0 : 0 ≤ t) (ht1 : t < 16777216) (k : ByteArray) (hk : k.size ≤ maxLen) :
    Calls Try.prog 37 #[.pointer (some ⟨p, 0, none⟩), .string k] W fun e w' => e = .returned (.tuple #[.bool (hv m t), .int .i64 0]) ∧ Skf w' p lo hi n m (tA m t) sd q c (FA m t F (sumN sd k) n) ∧ Keep lo hi W w' := by
  have HZ := Lib.hid (isz h.s n1)
  have HP := Lib.hid (pplc hs h.s n1 n2 k hk)
  have HPL := Lib.hid (pl4_lt (sumN sd k) (show 0 < n by omega))
  have HIX := Lib.hid (fun w => ixg w (sumN sd k) n)
  have H := Lib.hid h
  have HF := Lib.hid hF
  generalize sumN sd k = x at *
  clear h hF hs
  go_enter Try.func37, Try.ntmps37
  go_wp2_with fail
  refine HZ.out.mono ?_
  rintro e w1 ⟨rfl, rfl⟩
  go_wp2_with fail
  refine HP.out.mono ?_
  rintro e w1 ⟨rfl, b1⟩
  have H0 := Lib.hid ((H.out.below b1).congr (G := midA F x n 0) fun a _ b _ => by unfold midA; rw [if_neg (by omega)])
  have B1 := Lib.hid (Keep.of (lo := lo) (hi := hi) b1)
  clear b1 H
  go_wp2_with fail
  go_loopw [13] (fun i wr => ∃ r : Nat, r ≤ 4 ∧ i = .int .i64 r ∧ Skf wr p lo hi n m t sd q c (midA F x n r) ∧ Keep lo hi W wr) (fun i _ => 4 - (intOf i).toNat)
  case atStart => exact ⟨0, by omega, rfl, H0.out, B1.out⟩
  case round =>
    clear H0 B1
    obtain ⟨r, hr, rfl, hS, hK⟩ := hrel
    have S1 := Lib.hid hS
    have K1 := Lib.hid hK
    clear hS hK
    by_cases hr4 : r < 4
    · have hix := fun w => HIX.out w r hr4
      have k0 := S1.out.cr hr4
      have hyl := HPL.out r
      have k1 := (S1.out.r r hr4).cell (pl4 x n r) hyl
      have k2 := (S1.out.r r hr4).fr (pl4 x n r)
      have hz := HF.out r (pl4 x n r)
      have hpq := S1.out.pne r hr4
      have hlo := S1.out.l0
      rw [midA_at] at k1
      have SS := Lib.hid (S1.out.setr hr4 (pl4 x n r) (min 15 (F r (pl4 x n r) + 1)))
      rw [midA_step] at SS
      generalize F r (pl4 x n r) = z at *
      generalize pl4 x n r = y at *
      generalize hqr : q r = qr at *
      generalize hcr : c r = cr at *
      have hw1 : IntKind.u8.wrap ((z : Int) + 1) = (z : Int) + 1 := IntWalk.u8_in _ (by omega)
      have hmn : min (15 : Int) ((z : Int) + 1) = ((min 15 (z + 1) : Nat) : Int) := by omega
      generalize hv : min 15 (z + 1) = v at *
      have hv15 : v ≤ 15 := by omega
      have HQ := Lib.hid hqr
      clear hqr hcr hv
      have hval : (if (z : Int) + 1 < 15 then (z : Int) + 1 else 15) = ((v : Nat) : Int) := by rw [← hmn]; split <;> omega
      have HVAL := Lib.hid hval
      have KK := Lib.hid (K1.out.setCell (b := qr) (j := y) (by omega) (by omega) (.int .u8 (v : Nat))).drew
      have SS2 := Lib.hid SS.out.drew
      clear hval SS K1
      go_wp2_with fail
      go_region_with fail
      all_goals go_wp2_with fail
      all_goals rw [HVAL.out]
      all_goals exact ⟨⟨r + 1, by omega, by go_num, SS2.out, KK.out⟩, by simp [intOf]; omega⟩
    · obtain rfl : r = 4 := by omega
      have c1 := S1.out.s.c1
      have c2 := S1.out.s.c2
      have c2f := S1.out.fr 2
      have hp4 := S1.out.pne 0 (by decide)
      have S2 := Lib.hid ((S1.out.sett (t + 1)).congr (G := addF F x n) (midA_end F x n n))
      have K2 := Lib.hid (K1.out.setCell (b := p) (j := 2) S1.out.l0 (by omega) (.int .i64 (t + 1)))
      have hpl := S1.out.lt
      clear hp4 S1 K1
      cases hhv : hv m t
      all_goals have HHV := Lib.hid hhv
      · have HT := Lib.hid (show tA m t = t + 1 by unfold tA; rw [hhv]; rfl)
        have HFA := Lib.hid (show FA m t F x n = addF F x n by unfold FA; rw [hhv]; rfl)
        by_cases hm : m = 0
        · subst hm
          clear hhv
          go_wp2_with fail
          go_quiet (fail)
          go_wp2_with fail
          go_ret2
          exact ⟨by rw [HHV.out]; rfl, by rw [HT.out, HFA.out]; exact S2.out.below (below_drewN (Below.refl _ _) _), K2.out.drewN _⟩
        · have h2 : (t + 1 == m) = false := by
            unfold hv at hhv
            cases h3 : (t + 1 == m)
            · rfl
            · rw [h3, show (m == 0) = false from beq_eq_false_iff_ne.2 hm] at hhv; cases hhv
          clear hhv
          have h2b : (t + 1 != m) = true := by rw [bne, h2]; rfl
          go_wp2_with fail
          go_quiet (fail)
          go_wp2_with fail
          go_ret2
          exact ⟨by rw [HHV.out]; rfl, by rw [HT.out, HFA.out]; exact S2.out.below (below_drewN (Below.refl _ _) _), K2.out.drewN _⟩
      · have HT := Lib.hid (show tA m t = (t + 1) / 2 by unfold tA; rw [hhv]; rfl)
        have HFA := Lib.hid (show FA m t F x n = halF (addF F x n) by unfold FA; rw [hhv]; rfl)
        unfold hv at hhv
        simp only [Bool.and_eq_true, Bool.not_eq_true', beq_eq_false_iff_ne, beq_iff_eq] at hhv
        obtain ⟨hm, h2'⟩ := hhv
        have h2 : (t + 1 == m) = true := by rw [beq_iff_eq]; exact h2'
        clear h2'
        have h2b : (t + 1 != m) = false := by rw [bne, h2]; rfl
        have hm0 : (m == 0) = false := beq_eq_false_iff_ne.2 hm
        have HH := Lib.hid (fun nq => phalve (S2.out.below (below_drewN (Below.refl _ _) nq)) n1 n2 (addF_le HF.out x n) (by omega) (by omega))
        go_wp2_with fail
        go_quiet (fail)
        go_wp2_with fail
        refine (HH.out _).mono ?_
        rintro e w2 ⟨rfl, s2, k2⟩
        have S3 := Lib.hid s2
        have K3 := Lib.hid ((K2.out.drewN _).trans k2)
        clear s2 k2
        go_wp2_with fail
        go_ret2
        exact ⟨by rw [HHV.out]; rfl, by rw [HT.out, HFA.out]; exact S3.out, K3.out⟩
end Go.Proofs.Ytohldfhelppehaa.Skt
