/-
  Victims (layer 18): the reference: Stays.
-/
import Derived.Test.YtlokilkhlhhjgaaVicR
set_option linter.unusedVariables false
set_option linter.unusedSimpArgs false
namespace Go.Proofs.Ytlokilkhlhhjgaa.Vic
open Go Go.RowKit Kit Go.Maps
def StR (e : Ending) (n b k : Int) (l : List Wg) (m : Nat) : Prop := Says e (stays n b (l.length : Int) (tot l) (notk k l) m)
set_option maxRecDepth 100000 in
set_option maxHeartbeats 1000000 in
theorem stays_any {W : World} {m1 c1 m2 c2 : Nat} {p1 p2 : Option Addr} {l1 l2 : List Wg} (k n b : Int) (many : Nat) (h1 : l1.length = m1) (h2 : l2.length = m2) (r1 : Rd W p1 l1) (r2 : Rd W p2 l2) (hb1 : m1 ≤ 100) (hb2 : m2 ≤ 100) (hc : Costs (l1 ++ l2)) (hm : many ≤ (notk k (l1 ++ l2)).length) :
    Calls Try.prog 26 #[.slice p1 m1 c1, .slice p2 m2 c2, .int .u32 k, .int .i64 many, .int .i64 n, .int .i64 b] W fun e w' => StR e n b k (l1 ++ l2) many ∧ Below W.heap.size W w' := by
  have hL : (l1 ++ l2).length = m1 + m2 := by rw [List.length_append, h1, h2]
  have HR := Lib.hid (fun (v : World) (hb : Below W.heap.size W v) => rorder_any (W := v) (c1 := c1) (c2 := c2) k h1 h2 (r1.below hb) (r2.below hb) hb1 hb2)
  have hcA : Costs (l1 ++ l2) := hc
  have HCA := Lib.hid hcA
  have HMM := Lib.hid hm
  have R1 := Lib.hid (fun (v : World) (hb : Below W.heap.size W v) => r1.below hb)
  have R2 := Lib.hid (fun (v : World) (hb : Below W.heap.size W v) => r2.below hb)
  have H1 := Lib.hid h1
  have H2 := Lib.hid h2
  clear r1 r2 hc hcA hm
  go_enter Try.func26, Try.ntmps26
  clear h1 h2
  go_wp2_with (first
    | (at_builtin; refine wpList_appW rfl (.const (.slice none 0 0)) (.tmp 19) rfl W.heap.size (.slice none 0 0) [] rfl (World.ownsRow_nil _ _ _ _) p1 m1 c1 l1 rfl H1.out (R1.out _ (Below.refl _ _)) (by simp; omega) (Nat.le_refl _) ?_; intro v2 x2 o2 b2 s2; have O2 := Lib.hid o2; have B2 := Lib.hid b2; clear o2 b2)
    | (at_builtin; refine wpList_appF rfl (.tmp 20) (.tmp 21) rfl W.heap.size v2 ([] ++ l1) rfl O2.out p2 m2 c2 l2 rfl H2.out (R2.out _ B2.out) (by rw [List.nil_append, H1.out]; omega) B2.out.size ?_; intro q nn kk x3 hnn o3 b3 s3; have AL := Lib.hid (ow_al o3); have B3 := Lib.hid (B2.out.trans b3); clear o3 b3; have hnb : nn ≤ 200 := (by rw [List.nil_append, H1.out] at hnn; omega); obtain ⟨ll, hll⟩ : ∃ x, l1 ++ l2 = x := ⟨_, rfl⟩; rw [List.nil_append, hll] at AL; have HLL := Lib.hid hll; have HL := Lib.hid AL.out.1; have hmn : many ≤ nn := (by have := HMM.out; rw [hll] at this; have := notk_len k ll; have := HL.out; omega); have wnm := IntWalk.i64_in ((nn : Int) - (many : Int)) (by omega); clear hnn hll s2 s3 hL O2 B2 R1 R2 H1 H2 hb1 hb2))
  rw [HLL.out] at HR HCA HMM
  go_wp2_with fail
  go_loopw [15, 16] (fun v5 v wr => ∃ (j : Nat), j ≤ nn ∧ v = .int .i64 j ∧ v5 = .int .i64 (tot (ll.take j)) ∧ Below x3.heap.size x3 wr) (fun _ v _ => nn - (intOf v).toNat)
  case atStart => exact ⟨0, by omega, rfl, rfl, Below.refl _ _⟩
  case round =>
    obtain ⟨j, hj, rfl, rfl, b1⟩ := hrel
    have BB := Lib.hid b1
    have hcj := HCA.out.part j
    have htt := HCA.out.tot
    rw [HL.out] at htt
    by_cases hjn : j = nn
    · subst hjn
      rw [List.take_of_length_le (Nat.le_of_eq HL.out)]
      clear b1 hcj
      obtain ⟨C, hCe⟩ : ∃ C, tot ll = C := ⟨_, rfl⟩
      rw [hCe] at htt ⊢
      have HCE := Lib.hid hCe
      have hT2 := tot_notk HCA.out k
      have hC2 := HCA.out.notk k
      rw [hCe] at hT2
      clear hCe
      go_wp2_with fail
      refine (HR.out _ (B3.out.trans (BB.out.mono B3.out.size))).mono ?_
      rintro e w3 ⟨v3, rfl, o3, b3⟩
      have B4 := Lib.hid (B3.out.trans ((BB.out.trans (b3.mono BB.out.size)).mono B3.out.size))
      obtain ⟨q3, n3, k3, rfl, hn3, -, -⟩ := o3.form
      have AL3 := Lib.hid (ow_al o3)
      have HM := HMM.out
      clear b3 o3 BB HR AL
      obtain ⟨oo, hoo⟩ : ∃ x, notk k ll = x := ⟨_, rfl⟩
      rw [hoo] at hn3 hC2 hT2 HM AL3
      have HOO := Lib.hid hoo
      have HC2 := Lib.hid hC2
      have HN3 := Lib.hid hn3
      have hmo : many ≤ n3 := by omega
      clear hoo hC2 hn3 HM
      go_wp2_with fail
      go_loopw [15, 18] (fun v5 v wr => ∃ (i : Nat), i ≤ many ∧ v = .int .i64 i ∧ v5 = .int .i64 (C - tot (oo.take i)) ∧ Below w3.heap.size w3 wr) (fun _ v _ => many - (intOf v).toNat)
      case atStart => exact ⟨0, by omega, rfl, by simp [tot], Below.refl _ _⟩
      case round =>
        obtain ⟨i, hi, rfl, rfl, b1⟩ := hrel
        have BB := Lib.hid b1
        have hcj := HC2.out.part i
        by_cases hin : i = many
        · subst hin
          have HST := Lib.hid (show stays n b (j : Int) C oo i ↔ ((j : Int) - (i : Int) ≤ n ∧ C - tot (oo.take i) ≤ b) from Iff.rfl)
          have END := Lib.hid (show ∀ v : Bool, (v = true ↔ stays n b (j : Int) C oo i) → StR (.returned (.bool v)) n b k (l1 ++ l2) i from fun v hv => by
            unfold StR
            rw [HLL.out, HOO.out, HCE.out, HL.out]
            exact ⟨v, rfl, hv⟩)
          have BE := Lib.hid (B4.out.trans (BB.out.mono B4.out.size))
          clear b1 hcj
          generalize tot (oo.take i) = S at *
          by_cases hst : stays n b (j : Int) C oo i
          · have ST := Lib.hid hst
            obtain ⟨k1, k2⟩ := HST.out.1 hst
            clear hst
            go_wp2_with fail
            go_ret
            exact ⟨END.out _ (by simp [ST.out]), BE.out⟩
          · have hor : ¬ ((j : Int) - (i : Int) ≤ n) ∨ (((j : Int) - (i : Int) ≤ n) ∧ ¬ (C - S ≤ b)) := by
              rw [HST.out] at hst
              by_cases h1 : (j : Int) - (i : Int) ≤ n
              · exact .inr ⟨h1, fun h2 => hst ⟨h1, h2⟩⟩
              · exact .inl h1
            have ST := Lib.hid hst
            clear hst
            rcases hor with h1 | ⟨h1, h2⟩
            all_goals (
              go_wp2_with fail
              go_ret
              exact ⟨END.out _ (by simp [ST.out]), BE.out⟩)
        · have hlt : i < many := by omega
          have hlt' : (i : Int) < (many : Int) := by omega
          have hlt2' : (i : Int) < (n3 : Int) := by omega
          have i0 : (0 : Int) ≤ (i : Int) := by omega
          obtain ⟨p, hp⟩ : ∃ p, oo[i]? = some p := ⟨oo[i]'(by have := HN3.out; omega), List.getElem?_eq_getElem _⟩
          obtain ⟨g, rfl, -, -, hG⟩ := AL3.out.at_ hp
          obtain ⟨e0, e1, hg⟩ := hG _ b1
          have ht := tot_succ hp
          have hcs := HC2.out.part (i + 1)
          have HT := Lib.hid ht
          have wt := IntWalk.i64_in (C - tot (oo.take i) - p.2) (by omega)
          clear b1 hcj hcs htt hp ht hG
          generalize tot (oo.take i) = S at *
          go_wp2_with fail
          go_roundw
          case rel => exact ⟨i + 1, by omega, by go_num, by rw [HT.out]; exact congrArg (Value.int .i64) (by omega), BB.out⟩
          case measure => simp [intOf]; omega
    · have hlt : j < nn := by omega
      have hlt' : (j : Int) < (nn : Int) := by omega
      have j0 : (0 : Int) ≤ (j : Int) := by omega
      obtain ⟨p, hp⟩ : ∃ p, ll[j]? = some p := ⟨ll[j]'(by rw [HL.out]; omega), List.getElem?_eq_getElem _⟩
      obtain ⟨g, rfl, -, -, hG⟩ := AL.out.at_ hp
      obtain ⟨e0, e1, hg⟩ := hG _ b1
      have ht := tot_succ hp
      have hcs := HCA.out.part (j + 1)
      have HT := Lib.hid ht
      have wt := IntWalk.i64_in (tot (ll.take j) + p.2) (by omega)
      clear b1 hcj hcs htt hp ht hG
      generalize tot (ll.take j) = S at *
      go_wp2_with fail
      go_roundw
      case rel => exact ⟨j + 1, by omega, by go_num, by rw [HT.out], BB.out⟩
      case measure => simp [intOf]; omega
end Go.Proofs.Ytlokilkhlhhjgaa.Vic
