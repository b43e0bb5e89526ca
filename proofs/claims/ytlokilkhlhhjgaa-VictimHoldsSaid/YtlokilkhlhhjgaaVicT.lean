/-
  Victims (layer 18): the reference: Choose.
-/
import Derived.Test.YtlokilkhlhhjgaaVicS
set_option linter.unusedVariables false
set_option linter.unusedSimpArgs false
namespace Go.Proofs.Ytlokilkhlhhjgaa.Vic
open Go Go.RowKit Kit Go.Maps
set_option maxRecDepth 100000 in
set_option maxHeartbeats 1000000 in
theorem rchoose_any {W : World} {m1 c1 m2 c2 : Nat} {p1 p2 : Option Addr} {l1 l2 : List Wg} (k n b : Int) (h1 : l1.length = m1) (h2 : l2.length = m2) (r1 : Rd W p1 l1) (r2 : Rd W p2 l2) (hb1 : m1 ≤ 100) (hb2 : m2 ≤ 100) (hc : Costs (l1 ++ l2)) :
    Calls Try.prog 16 #[.slice p1 m1 c1, .slice p2 m2 c2, .int .u32 k, .int .i64 n, .int .i64 b] W fun e w' => Gives e w' W.heap.size n b k (l1 ++ l2) ∧ Below W.heap.size W w' := by
  have hO := rorder_any (W := W) (c1 := c1) (c2 := c2) k h1 h2 r1 r2 hb1 hb2
  have HS := Lib.hid (fun (v : World) (hb : Below W.heap.size W v) (many : Nat) (hm : many ≤ (notk k (l1 ++ l2)).length) => stays_any (W := v) (c1 := c1) (c2 := c2) k n b many h1 h2 (r1.below hb) (r2.below hb) hb1 hb2 hc hm)
  have hL : (notk k (l1 ++ l2)).length ≤ 200 := Nat.le_trans (notk_len _ _) (by rw [List.length_append]; omega)
  have HO := Lib.hid hO
  clear hO r1 r2 hb1 hb2 hc h1 h2
  go_enter Try.func16, Try.ntmps16
  go_wp2_with fail
  refine HO.out.mono ?_
  rintro e w1 ⟨v1, rfl, o1, b1⟩
  obtain ⟨q, nn, kk, rfl, hnn, -, -⟩ := o1.form
  have B1 := Lib.hid b1
  have AL := Lib.hid (ow_al o1)
  have HE := Lib.hid (show ∀ (i : Nat) (w : World) (v : Value), Ks w w1.heap.size v (slots ((notk k (l1 ++ l2)).take i)) → Vc n b ((l1 ++ l2).length : Int) (tot (l1 ++ l2)) (notk k (l1 ++ l2)) i → Gives (.returned v) w W.heap.size n b k (l1 ++ l2) from fun i w v h1 h2 => ⟨i, v, rfl, h2, h1.lift b1.size⟩)
  clear o1 b1 HO
  have HS2 := Lib.hid (fun (v : World) (hb : Below W.heap.size W v) (many : Nat) (hm : many ≤ (notk k (l1 ++ l2)).length) => (HS.out v hb many hm).mono fun e w' (h : StR e n b k (l1 ++ l2) many ∧ Below v.heap.size v w') => (⟨h.1, h.2⟩ : Says e (stays n b ((l1 ++ l2).length : Int) (tot (l1 ++ l2)) (notk k (l1 ++ l2)) many) ∧ Below v.heap.size v w'))
  clear HS
  obtain ⟨oo, hoo⟩ : ∃ x, notk k (l1 ++ l2) = x := ⟨_, rfl⟩
  obtain ⟨N, hN⟩ : ∃ x, ((l1 ++ l2).length : Int) = x := ⟨_, rfl⟩
  obtain ⟨C, hC⟩ : ∃ x, tot (l1 ++ l2) = x := ⟨_, rfl⟩
  rw [hoo] at hL hnn AL HE HS2
  rw [hN, hC] at HE HS2
  have HN := Lib.hid hnn
  have hnb : nn ≤ 200 := by omega
  clear hoo hN hC hnn hL
  go_wp2_with fail
  go_loopw [12] (fun v wr => ∃ i : Nat, i ≤ nn ∧ v = .int .i64 i ∧ (∀ m, m < i → ¬ stays n b N C oo m) ∧ Below w1.heap.size w1 wr) (fun v _ => nn - (intOf v).toNat)
  case atStart => exact ⟨0, by omega, rfl, fun m hm => by omega, Below.refl _ _⟩
  case round =>
    obtain ⟨i, hi, rfl, hNS, bW⟩ := hrel
    have BW := Lib.hid bW
    have NS := Lib.hid hNS
    have BE := Lib.hid (fun w' (hb : Below w1.heap.size w1 w') => B1.out.trans (hb.mono B1.out.size))
    clear bW hNS
    have i0 : (0 : Int) ≤ (i : Int) := by omega
    by_cases hin : i = nn
    · have VC := Lib.hid (show Vc n b N C oo i from ⟨by have := HN.out; omega, NS.out, .inl (by have := HN.out; omega)⟩)
      subst hin
      go_wp2_with fail
      obtain ⟨nq, hnq⟩ : ∃ x, oo.length = x := ⟨_, rfl⟩
      have NQ := Lib.hid hnq
      have hio : i ≤ nq := by have := VC.out.1; omega
      have hnq2 : nq ≤ 200 := by have := AL.out.1; omega
      have i200 : i ≤ 200 := by omega
      have BS := BW
      clear hnq BW
      obtain ⟨i1, hi1, hz0, hz1, hz2⟩ := u_parts
      go_loopw [13, 14] (fun v8 v wr => ∃ j : Nat, j ≤ i ∧ v = .int .i64 j ∧ Ks wr w1.heap.size v8 (slots (oo.take j)) ∧ Below w1.heap.size w1 wr) (fun _ v _ => i - (intOf v).toNat)
      case atStart => exact ⟨0, by omega, rfl, World.ownsRow_nil _ _ _ _, BS.out⟩
      case round =>
        obtain ⟨j, hj, rfl, hK, bW⟩ := hrel
        have BW := Lib.hid bW
        have KS := Lib.hid hK
        clear bW hK
        have j0 : (0 : Int) ≤ (j : Int) := by omega
        by_cases hji : j = i
        · subst hji
          go_wp2_with fail
          go_ret
          exact ⟨HE.out _ _ _ KS.out VC.out, BE.out _ BW.out⟩
        · have hlt3 : j < i := by omega
          have hlt3' : (j : Int) < (i : Int) := by omega
          obtain ⟨p, hp⟩ : ∃ p, oo[j]? = some p := ⟨oo[j]'(by have := NQ.out; omega), List.getElem?_eq_getElem _⟩
          obtain ⟨g, hgq, -, -, hG⟩ := AL.out.at_ hp
          subst hgq
          have hlq : (j : Int) < (i : Int) := by have := AL.out.1; have := NQ.out; omega
          obtain ⟨e0, e1, hg⟩ := hG _ BW.out
          have HSL := Lib.hid (show slots (oo.take (j + 1)) = slots (oo.take j) ++ [p.1] from by unfold slots; rw [List.take_add_one, hp, List.map_append]; rfl)
          have HSN := Lib.hid (show (slots (oo.take j)).length ≤ 200 from by unfold slots; rw [List.length_map, List.length_take]; omega)
          clear hp hG
          go_wp2_with (at_builtin; refine wpList_app1 rfl (.tmp 40) (.tmp 46) 39 rfl w1.heap.size 25 i1 (.int .u32 0) 4 Try.underlying39 hi1 hz0 hz1 hz2 rfl _ _ _ (.int .u32 p.1) rfl KS.out rfl rfl (by have := HSN.out; omega) (by omega) BW.out.size ?_; intro v' w' o' b' s')
          have O5 := Lib.hid (show Ks w' w1.heap.size v' (slots (oo.take (j + 1))) from by
            unfold Ks
            rw [HSL.out]
            simpa [List.map_append] using o')
          have B5 := Lib.hid (BW.out.trans b')
          clear o' b' s'
          go_roundw
          case rel => exact ⟨j + 1, by omega, by go_num, O5.out, B5.out⟩
          case measure => simp [intOf]; omega
    · have hlt : i < nn := by omega
      have hlt' : (i : Int) < (nn : Int) := by omega
      go_wp2_with fail
      refine (HS2.out _ (BE.out _ BW.out) i (by have := HN.out; omega)).mono ?_
      rintro e w2 ⟨⟨v, rfl, hv⟩, b2⟩
      have B2 := Lib.hid (BW.out.trans (b2.mono BW.out.size))
      clear b2
      cases v with
      | false =>
        have ST := Lib.hid (show ¬ stays n b N C oo i from fun h => by have := hv.2 h; cases this)
        clear hv
        go_wp2_with fail
        go_roundw
        case rel =>
          refine ⟨i + 1, by omega, by go_num, fun m hm => ?_, B2.out⟩
          rcases Nat.lt_or_ge m i with h | h
          · exact NS.out m h
          · obtain rfl : m = i := by omega
            exact ST.out
        case measure => simp [intOf]; omega
      | true =>
        have ST := Lib.hid (hv.1 rfl)
        have VC := Lib.hid (show Vc n b N C oo i from ⟨by have := HN.out; omega, NS.out, .inr ST.out⟩)
        clear hv BW
        have BW := B2
        clear B2
        go_wp2_with fail
        obtain ⟨nq, hnq⟩ : ∃ x, oo.length = x := ⟨_, rfl⟩
        have NQ := Lib.hid hnq
        have hio : i ≤ nq := by have := VC.out.1; omega
        have hnq2 : nq ≤ 200 := by have := AL.out.1; omega
        have i200 : i ≤ 200 := by omega
        have BS := BW
        clear hnq BW
        obtain ⟨i1, hi1, hz0, hz1, hz2⟩ := u_parts
        go_loopw [13, 14] (fun v8 v wr => ∃ j : Nat, j ≤ i ∧ v = .int .i64 j ∧ Ks wr w1.heap.size v8 (slots (oo.take j)) ∧ Below w1.heap.size w1 wr) (fun _ v _ => i - (intOf v).toNat)
        case atStart => exact ⟨0, by omega, rfl, World.ownsRow_nil _ _ _ _, BS.out⟩
        case round =>
          obtain ⟨j, hj, rfl, hK, bW⟩ := hrel
          have BW := Lib.hid bW
          have KS := Lib.hid hK
          clear bW hK
          have j0 : (0 : Int) ≤ (j : Int) := by omega
          by_cases hji : j = i
          · subst hji
            go_wp2_with fail
            go_ret
            exact ⟨HE.out _ _ _ KS.out VC.out, BE.out _ BW.out⟩
          · have hlt3 : j < i := by omega
            have hlt3' : (j : Int) < (i : Int) := by omega
            obtain ⟨p, hp⟩ : ∃ p, oo[j]? = some p := ⟨oo[j]'(by have := NQ.out; omega), List.getElem?_eq_getElem _⟩
            obtain ⟨g, hgq, -, -, hG⟩ := AL.out.at_ hp
            subst hgq
            have hlq : (j : Int) < (nn : Int) := by have := AL.out.1; have := NQ.out; omega
            obtain ⟨e0, e1, hg⟩ := hG _ BW.out
            have HSL := Lib.hid (show slots (oo.take (j + 1)) = slots (oo.take j) ++ [p.1] from by unfold slots; rw [List.take_add_one, hp, List.map_append]; rfl)
            have HSN := Lib.hid (show (slots (oo.take j)).length ≤ 200 from by unfold slots; rw [List.length_map, List.length_take]; omega)
            clear hp hG
            go_wp2_with (at_builtin; refine wpList_app1 rfl (.tmp 40) (.tmp 46) 39 rfl w1.heap.size 25 i1 (.int .u32 0) 4 Try.underlying39 hi1 hz0 hz1 hz2 rfl _ _ _ (.int .u32 p.1) rfl KS.out rfl rfl (by have := HSN.out; omega) (by omega) BW.out.size ?_; intro v' w' o' b' s')
            have O5 := Lib.hid (show Ks w' w1.heap.size v' (slots (oo.take (j + 1))) from by
              unfold Ks
              rw [HSL.out]
              simpa [List.map_append] using o')
            have B5 := Lib.hid (BW.out.trans b')
            clear o' b' s'
            go_roundw
            case rel => exact ⟨j + 1, by omega, by go_num, O5.out, B5.out⟩
            case measure => simp [intOf]; omega
end Go.Proofs.Ytlokilkhlhhjgaa.Vic
