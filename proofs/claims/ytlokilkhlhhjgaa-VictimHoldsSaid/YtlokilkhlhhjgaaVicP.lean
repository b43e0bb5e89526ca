/-
  Victims (layer 18): Check.
-/
import Derived.Test.YtlokilkhlhhjgaaVicO
set_option linter.unusedVariables false
set_option linter.unusedSimpArgs false
namespace Go.Proofs.Ytlokilkhlhhjgaa.Vic
open Go Go.RowKit Kit Go.Maps
/-- the first place where two lists differ -/
def fd : List Int → List Int → Nat
  | x :: a, y :: b => if x = y then fd a b + 1 else 0
  | _, _ => 0
def firstI (a b : List Int) : Int := if a = b then -1 else (fd a b : Int)
theorem fd_of : ∀ {a b : List Int} {i : Nat}, a.take i = b.take i → i ≤ a.length → i ≤ b.length → (i = a.length ∨ i = b.length ∨ a[i]? ≠ b[i]?) → fd a b = i
  | [], [], i, _, h1, _, _ => by simp at h1; subst h1; rfl
  | [], y :: b, i, _, h1, _, _ => by simp at h1; subst h1; rfl
  | x :: a, [], i, _, _, h1, _ => by simp at h1; subst h1; rfl
  | x :: a, y :: b, 0, _, _, _, hd => by
    simp at hd
    simp [fd, hd]
  | x :: a, y :: b, i + 1, h, h1, h2, hd => by
    simp only [List.take_succ_cons, List.cons.injEq] at h
    simp only [List.length_cons] at h1 h2 hd
    have := fd_of h.2 (by omega) (by omega) (by simpa using hd)
    simp [fd, h.1, this]
theorem firstI_eq (a : List Int) : firstI a a = -1 := by simp [firstI]
theorem firstI_ne {a b : List Int} {i : Nat} (hn : ¬ a = b) (h : a.take i = b.take i) (h1 : i ≤ a.length) (h2 : i ≤ b.length) (hd : i = a.length ∨ i = b.length ∨ a[i]? ≠ b[i]?) : firstI a b = (i : Int) := by
  unfold firstI
  rw [if_neg hn, fd_of h h1 h2 hd]
/-- what Check returns -/
def CheR (e : Ending) (n b k : Int) (l : List Wg) (vs : List Int) : Prop := (VOk n b l → ∃ m, Vc n b (l.length : Int) (tot l) (notk k l) m ∧ e = .returned (.tuple #[.int .i64 (firstI (slots ((notk k l).take m)) vs), .int .i64 0])) ∧ (¬ VOk n b l → e = .returned (.tuple #[.int .i64 0, .int .i64 2]))
theorem notk_len (k : Int) (l : List Wg) : (notk k l).length ≤ l.length := List.length_filter_le _ _
set_option maxRecDepth 100000 in
set_option maxHeartbeats 1000000 in
theorem Check_any {W : World} {m1 c1 m2 c2 m3 c3 : Nat} {p1 p2 p3 : Option Addr} {l1 l2 : List Wg} {vs : List Int} {k n b : Int} (h1 : l1.length = m1) (h2 : l2.length = m2) (r1 : Rd W p1 l1) (r2 : Rd W p2 l2) (hb1 : m1 ≤ 100) (hb2 : m2 ≤ 100) (hw : Wf (l1 ++ l2)) (h3 : vs.length = m3) (r3 : Ru W p3 vs) (hb3 : m3 ≤ 1000) :
    Calls Try.prog 27 #[.slice p1 m1 c1, .slice p2 m2 c2, .int .u32 k, .int .i64 n, .int .i64 b, .slice p3 m3 c3] W fun e w' => CheR e n b k (l1 ++ l2) vs ∧ Below W.heap.size W w' := by
  have hC := Choose_any (W := W) (c1 := c1) (c2 := c2) (k := k) (n := n) (b := b) h1 h2 r1 r2 hb1 hb2 hw
  have hL : (l1 ++ l2).length ≤ 200 := by rw [List.length_append]; omega
  obtain ⟨ll, hll⟩ : ∃ x, l1 ++ l2 = x := ⟨_, rfl⟩
  rw [hll] at hC hL
  have HC := Lib.hid hC
  have HLL := Lib.hid hll
  have R3 := Lib.hid (fun (v : World) (hb : Below W.heap.size W v) => r3.below hb)
  have H3 := Lib.hid h3
  have HL := Lib.hid hL
  clear r1 r2 hll hw h1 h2 hb1 hb2 hC r3 h3 hL
  go_enter Try.func27, Try.ntmps27
  go_wp2_with fail
  refine HC.out.mono ?_
  rintro e w1 ⟨⟨hy, hn⟩, b1⟩
  have B1 := Lib.hid b1
  by_cases hok : VOk n b ll
  · obtain ⟨v, rfl, m, v', hv, hm, ks⟩ := hy hok
    cases hv
    obtain ⟨q, cq, rfl, rq⟩ := ks_ru ks
    have hML : (slots ((notk k ll).take m)).length ≤ 200 := by
      unfold slots; rw [List.length_map, List.length_take]; have := notk_len k ll; have := HL.out; omega
    have OK := Lib.hid hok
    have END := Lib.hid (show ∀ r, r = firstI (slots ((notk k ll).take m)) vs → CheR (.returned (.tuple #[.int .i64 r, .int .i64 0])) n b k (l1 ++ l2) vs from fun r hr => by
      rw [HLL.out]
      exact ⟨fun _ => ⟨m, hm, by rw [hr]⟩, fun h => absurd hok h⟩)
    have RQ := Lib.hid rq
    clear hy hn hok hm ks rq b1
    obtain ⟨wl, hwl⟩ : ∃ x, slots ((notk k ll).take m) = x := ⟨_, rfl⟩
    rw [hwl] at hML RQ END ⊢
    obtain ⟨wn, hwn⟩ : ∃ x, wl.length = x := ⟨_, rfl⟩
    have WN := Lib.hid hwn
    rw [hwn] at hML ⊢
    clear hwl hwn
    go_wp2_with fail
    refine (equal_any H3.out WN.out (R3.out _ B1.out) RQ.out (by omega) (by omega)).mono ?_
    rintro e w2 ⟨⟨v, rfl, hv⟩, b2⟩
    have B2 := Lib.hid (tr B1.out b2)
    have RQ2 := Lib.hid (fun w' (hb : Below w2.heap.size w2 w') => (RQ.out.below b2).below hb)
    clear b2
    cases v with
    | true =>
      have he := hv.1 rfl
      have HE := Lib.hid he
      clear hv he
      go_wp2_with fail
      go_ret2
      exact ⟨END.out _ (by rw [HE.out, firstI_eq]), B2.out⟩
    | false =>
      have hne : ¬ vs = wl := fun h => by have := hv.2 h; cases this
      have NE := Lib.hid hne
      clear hv hne
      go_wp2_with fail
      go_loopw [16] (fun i wr => ∃ j : Nat, j ≤ m3 ∧ j ≤ wn ∧ i = .int .i64 j ∧ wl.take j = vs.take j ∧ Below w2.heap.size w2 wr) (fun i _ => m3 - (intOf i).toNat)
      case atStart => exact ⟨0, by omega, by omega, rfl, by simp, Below.refl _ _⟩
      case round =>
        obtain ⟨j, hj, hj2, rfl, hT, bW⟩ := hrel
        have BW := Lib.hid bW
        have HT := Lib.hid hT
        have BE := Lib.hid (fun w' (hb : Below w2.heap.size w2 w') => tr B2.out hb)
        clear bW hT
        have j0 : (0 : Int) ≤ (j : Int) := by omega
        by_cases hlt : j < m3 ∧ j < wn
        · obtain ⟨k1, k2⟩ := hlt
          obtain ⟨z1, hz1⟩ : ∃ p, vs[j]? = some p := ⟨vs[j]'(by rw [H3.out]; omega), List.getElem?_eq_getElem _⟩
          obtain ⟨z2, hz2⟩ : ∃ p, wl[j]? = some p := ⟨wl[j]'(by rw [WN.out]; omega), List.getElem?_eq_getElem _⟩
          obtain ⟨y1, rfl, _, x1⟩ := R3.out _ (BE.out _ BW.out) j z1 hz1
          obtain ⟨y2, rfl, _, x2⟩ := RQ2.out _ BW.out j z2 hz2
          have k1' : (j : Int) < (m3 : Int) := by omega
          have k2' : (j : Int) < (wn : Int) := by omega
          have HS := Lib.hid (fun w' (hb : Below w2.heap.size w2 w') => (show w'.cell? (y1.add j) = some (.int .u32 z1) ∧ w'.cell? (y2.add j) = some (.int .u32 z2) ∧ Below w2.heap.size w2 w' from by
            obtain ⟨y, hy, _, e1⟩ := R3.out _ (BE.out _ hb) j z1 hz1
            obtain ⟨y', hy', _, e2⟩ := RQ2.out _ hb j z2 hz2
            cases hy; cases hy'
            exact ⟨e1, e2, hb⟩))
          have Z1 := Lib.hid hz1
          have Z2 := Lib.hid hz2
          clear hz1 hz2
          by_cases hz : z1 = z2
          · subst hz
            go_wp2_with fail
            go_region_held3 (fun w' => w'.cell? (y1.add j) = some (.int .u32 z1) ∧ w'.cell? (y2.add j) = some (.int .u32 z1) ∧ Below w2.heap.size w2 w')
              (first
                | (exact HS.out _ (Below.drew BW.out))
                | assumption
                | fail)
              (first | fail)
            have B2 := Lib.hid (Below.drew BW.out)
            go_wp2_with fail
            go_roundw
            case rel => exact ⟨j + 1, by omega, by omega, by go_num, same_to HT.out Z2.out Z1.out, B2.out⟩
            case measure => simp [intOf]; omega
          · have hb : (z1 == z2) = false := by rw [beq_eq_false_iff_ne]; exact hz
            have hb2 : (z1 != z2) = true := by rw [bne_iff_ne]; exact hz
            have HZ := Lib.hid hz
            clear hz
            go_wp2_with fail
            go_region_held3 (fun w' => w'.cell? (y1.add j) = some (.int .u32 z1) ∧ w'.cell? (y2.add j) = some (.int .u32 z2) ∧ Below w2.heap.size w2 w')
              (first
                | (exact HS.out _ (Below.drew BW.out))
                | assumption
                | fail)
              (first | fail)
            have B3 := Lib.hid (Below.drew BW.out)
            go_wp2_with fail
            go_ret2
            exact ⟨END.out _ (firstI_ne (fun h => NE.out h.symm) HT.out (by rw [WN.out]; omega) (by rw [H3.out]; omega) (.inr (.inr (by rw [Z1.out, Z2.out]; intro h; cases h; exact HZ.out rfl)))).symm, BE.out _ B3.out⟩
        · have hor : j = m3 ∨ (j < m3 ∧ j = wn) := by omega
          have HE := Lib.hid (show (j : Int) = firstI wl vs from (firstI_ne (fun h => NE.out h.symm) HT.out (by rw [WN.out]; omega) (by rw [H3.out]; omega) (by rw [WN.out, H3.out]; omega)).symm)
          rcases hor with rfl | ⟨k1, rfl⟩
          all_goals (
            go_wp2_with fail
            go_quiet (fail)
            have B3 := Lib.hid (fun n => below_drewN BW.out n)
            go_wp2_with fail
            go_ret2
            exact ⟨END.out _ HE.out, BE.out _ (B3.out _)⟩)
  · have NOK := Lib.hid hok
    obtain rfl := hn hok
    clear hy hn hok b1
    go_wp2_with fail
    go_ret2
    refine ⟨?_, B1.out⟩
    rw [HLL.out]
    exact ⟨fun h => absurd h NOK.out, fun _ => rfl⟩
end Go.Proofs.Ytlokilkhlhhjgaa.Vic
