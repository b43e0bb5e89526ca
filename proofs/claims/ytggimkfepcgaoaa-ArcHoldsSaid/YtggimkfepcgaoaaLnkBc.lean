/-
  Links (layer 14): Renumber.
-/
import Derived.Test.YtggimkfepcgaoaaLnkDb
import Derived.Test.YtggimkfepcgaoaaLnkM
import Derived.Test.YtggimkfepcgaoaaLnkL
set_option linter.unusedVariables false
set_option linter.unusedSimpArgs false
namespace Go.Proofs.Ytggimkfepcgaoaa.Lnk
open Go Go.RowKit Kit
/-- a node added to the back of a list, if it may be -/
def addB (N : Nat) (X : List (List Nat)) (h a : Nat) : Option (List (List Nat)) :=
  if a < N ∧ (∀ l ∈ X, a ∉ l) then some (X.set h ((X[h]?.getD []) ++ [a])) else none
def rnL (N : Nat) (t : Nat → Nat) (h : Nat) : List Nat → List (List Nat) → Option (List (List Nat))
  | [], X => some X
  | n :: l, X => (addB N X h (t n)).bind (rnL N t h l)
def rnA (N : Nat) (t : Nat → Nat) : Nat → List (List Nat) → List (List Nat) → Option (List (List Nat))
  | _, [], X => some X
  | h, l :: Ls, X => (rnL N t h l X).bind (rnA N t (h + 1) Ls)
theorem free_all {X : List (List Nat)} {a : Nat} : (∀ l ∈ X, a ∉ l) ↔ Free X a :=
  ⟨fun h k l hl => h l (List.mem_of_getElem? hl), fun h l hl => by obtain ⟨k, hk⟩ := List.mem_iff_getElem?.1 hl; exact h k l hk⟩
/-- Back, by what it gives -/
theorem back_by {w : World} {c q r cq cr N : Nat} {F : Fd} {X : List (List Nat)} (H : Lo w c q r cq cr N F X) {h a : Nat} (hh : h < X.length) (ha : a < 4294967296) :
    Calls Try.prog 21 #[.pointer (some ⟨c, 0, none⟩), .int .i64 (h : Int), .int .u32 (a : Int)] w fun e w' => (match addB N X h a with
      | some X' => e = .returned (.int .i64 0) ∧ ∃ F', Lo w' c q r cq cr N F' X' ∧ X'.length = X.length
      | none => ∃ code, e = .returned (.int .i64 code) ∧ code ≠ 0) ∧ Kp (Ob c q r) w w' := by
  unfold addB
  by_cases hN : a < N
  · by_cases hf : Free X a
    · rw [if_pos ⟨hN, free_all.2 hf⟩]
      obtain ⟨l, hl⟩ : ∃ l, X[h]? = some l := ⟨X[h], List.getElem?_eq_getElem _⟩
      refine (Back_ok H hl hN hf).mono ?_
      rintro e w' ⟨h1, h2, h3⟩
      refine ⟨⟨h1, linkF F a (N + h), ?_, ?_⟩, h3⟩
      · rw [hl]; exact h2
      · simp
    · rw [if_neg (fun h => hf (free_all.1 h.2))]
      refine (Back_busy H hh hN (fun h => hf ((H.ring.free_iff hN).1 h))).mono ?_
      rintro e w' ⟨h1, h2⟩
      exact ⟨⟨_, h1, by decide⟩, Kp.of h2⟩
  · rw [if_neg (fun h => hN h.1)]
    refine (Back_badN H hh (n := (a : Int)) (by omega) (by omega)).mono ?_
    rintro e w' ⟨h1, h2⟩
    exact ⟨⟨_, h1, by decide⟩, Kp.of h2⟩
theorem Ru.kp {w w' : World} {p : Option Addr} {l : List Int} {bad : Nat → Prop} (h : Ru w p l) (hk : Kp bad w w') (hb : ∀ y, p = some y → ¬ bad y.block) : Ru w' p l := fun i x hx => by
  obtain ⟨y, h0, h1, h2⟩ := h i x hx
  refine ⟨y, h0, Nat.lt_of_lt_of_le h1 hk.size, ?_⟩
  have : w'.cell? (y.add i) = w.cell? (y.add i) := by unfold World.cell?; rw [hk.block _ (by rw [add_block]; exact h1) (by rw [add_block]; exact hb y h0)]
  rw [this]; exact h2
theorem kl_parts {e : Ending} {w : World} {B : Nat} {l : List Int} (h : Kl e w B l) : ∃ p k, e = .returned (.slice p l.length k) ∧ Ru w p l ∧ ∀ y, p = some y → B ≤ y.block := by
  obtain ⟨v, rfl, hk⟩ := h
  obtain ⟨p, k, rfl, hr⟩ := ks_ru hk
  refine ⟨p, k, rfl, hr, ?_⟩
  obtain ⟨h0, ⟨hv, hn⟩ | ⟨g, cap, cur, hv, hb', hg, hr⟩⟩ := hk
  · injection hv with a b c
    intro y hy; rw [a] at hy; cases hy
  · injection hv with a b c
    intro y hy; rw [a] at hy; cases hy; exact hb'
/-- what Renumber gives -/
def RnR (e : Ending) (w w' : World) (c M : Nat) : Option (List (List Nat)) → Prop
  | some Z => e = .returned (.int .i64 0) ∧ (∃ q' r' cq' cr' F', Lo w' c q' r' cq' cr' M F' Z ∧ w.heap.size ≤ q' ∧ w.heap.size ≤ r') ∧ Kp (fun k => k = c) w w'
  | none => e = .returned (.int .i64 2) ∧ Below w.heap.size w w'
section
variable {w : World} {c q r cq cr N : Nat} {F : Fd} {Ls : List (List Nat)}
set_option maxRecDepth 100000 in
theorem Renumber_bad (H : Lo w c q r cq cr N F Ls) {pt : Option Addr} {m ct : Nat} {nodes : Int} (hm : m ≤ 1000000000) (hb : ¬ (1 ≤ nodes ∧ nodes ≤ 4194304) ∨ (m ≠ N)) :
    Calls Try.prog 70 #[.pointer (some ⟨c, 0, none⟩), .slice pt m ct, .int .i64 nodes] w fun e w' => e = .returned (.int .i64 2) ∧ Below w.heap.size w w' := by
  have HZ := Lib.hid (isZero_any H)
  obtain ⟨k0, k1, k2⟩ := H.cells
  have HC := Lib.hid (fun (v : World) (hb : Below w.heap.size w v) => (H.below hb).cells)
  have h1 := H.h1
  have h2 := H.h2
  clear H
  go_enter Try.func70, Try.ntmps70
  go_wp2_with fail
  refine HZ.out.mono ?_
  rintro e w1 ⟨rfl, rfl⟩
  go_wp2_with fail
  by_cases hnb : 1 ≤ nodes ∧ nodes ≤ 4194304
  · have hmN : m ≠ N := by omega
    obtain ⟨M, rfl⟩ : ∃ M : Nat, nodes = (M : Int) := ⟨nodes.toNat, by omega⟩
    refine (New_ok M Ls.length w (by omega) (by omega) h1 h2).mono ?_
    rintro e w2 ⟨⟨c', q', r', F', rfl, lo, -, -, -⟩, b2⟩
    obtain ⟨x0, x1, x2⟩ := HC.out _ b2
    have B2 := Lib.hid b2
    have hne : ((m : Int) != (N : Int)) = true := by rw [bne_iff_ne]; omega
    clear b2 lo
    go_wp2_with fail
    go_ret
    exact ⟨rfl, B2.out⟩
  · refine (New_bad w (by omega)).mono ?_
    rintro e w2 ⟨rfl, b2⟩
    have B2 := Lib.hid b2
    obtain ⟨x0, x1, x2⟩ := HC.out _ b2
    clear b2
    go_wp2_with fail
    go_ret
    exact ⟨rfl, B2.out⟩
set_option maxRecDepth 100000 in
set_option maxHeartbeats 2000000 in
theorem Renumber_by (H : Lo w c q r cq cr N F Ls) {pt : Option Addr} {ct M : Nat} {T : List Nat} (hT : T.length = N) (hr : Ru w pt (ints T)) (hw : ∀ x ∈ T, x < 4294967296) (m1 : 1 ≤ M) (m2 : M ≤ 4194304) :
    Calls Try.prog 70 #[.pointer (some ⟨c, 0, none⟩), .slice pt N ct, .int .i64 (M : Int)] w fun e w' => RnR e w w' c M (rnA M (fun n => T[n]?.getD 0) 0 Ls (List.replicate Ls.length [])) := by
  have HZ := Lib.hid (isZero_any H)
  obtain ⟨k0, k1, k2⟩ := H.cells
  have HC := Lib.hid (fun (v : World) (hb : Below w.heap.size w v) => (H.below hb).cells)
  have HLO := Lib.hid (fun (v : World) (hb : Below w.heap.size w v) => H.below hb)
  have h1 := H.h1
  have h2 := H.h2
  have n1 := H.n1
  have n2 := H.n2
  obtain ⟨tot, htot⟩ : ∃ tot, rnA M (fun n => T[n]?.getD 0) 0 Ls (List.replicate Ls.length []) = tot := ⟨_, rfl⟩
  rw [htot]
  have HTOT := Lib.hid htot
  have HT := Lib.hid hT
  have HR := Lib.hid hr
  have HW := Lib.hid hw
  have HME := Lib.hid (fun (k : Nat) (l : List Nat) (hl : Ls[k]? = some l) (x : Nat) (hx : x ∈ l) => (H.ring.mem k l x hl hx).1)
  have hcs := H.lt.1
  have ENDN := Lib.hid (fun (v : World) (hb : Below w.heap.size w v) (h : tot = none) => (show RnR (.returned (.int .i64 2)) w v c M tot from by rw [h]; exact ⟨rfl, hb⟩))
  obtain ⟨Hn, hHn⟩ : ∃ Hn, Ls.length = Hn := ⟨_, rfl⟩
  have HHN := Lib.hid hHn
  have HNEW := Lib.hid (New_ok M Hn w (by omega) (by omega) (by omega) (by omega))
  rw [hHn] at k1 k2 h1 h2
  have HC2 := Lib.hid (fun (v : World) (hb : Below w.heap.size w v) => (show v.cell? ⟨c, 0, none⟩ = some (.int .i64 (N : Int)) ∧ v.cell? ⟨c, 1, none⟩ = some (.slice (some ⟨q, 0, none⟩) (N + Hn) cq) ∧ v.cell? ⟨c, 2, none⟩ = some (.slice (some ⟨r, 0, none⟩) Hn cr) from by have h := HC.out v hb; rw [hHn] at h; exact h))
  clear H htot hT hr hw HC hHn
  go_enter Try.func70, Try.ntmps70
  go_wp2_with fail
  refine HZ.out.mono ?_
  rintro e w1 ⟨rfl, rfl⟩
  go_wp2_with fail
  refine HNEW.out.mono ?_
  rintro e w2 ⟨⟨c', q', r', F', rfl, lo, hc', hq', hr'⟩, b2⟩
  obtain ⟨x0, x1, x2⟩ := HC2.out _ b2
  have B2 := Lib.hid b2
  have LO := Lib.hid lo
  clear b2 lo k0 k1 k2
  go_wp2_with fail
  obtain ⟨tf, htf⟩ : ∃ tf : Nat → Nat, (fun n : Nat => T[n]?.getD 0) = tf := ⟨_, rfl⟩
  rw [htf] at HTOT
  have HTF := Lib.hid htf
  clear htf x0 x1 x2
  go_loopw [40] (fun v wr => ∃ (k : Nat) (F : Fd) (X : List (List Nat)), k ≤ Hn ∧ v = .int .i64 (k : Int) ∧ Lo wr c' q' r' (M + Hn) Hn M F X ∧ X.length = Hn ∧ rnA M tf k (Ls.drop k) X = tot ∧ Below w.heap.size w wr) (fun v _ => Hn - (intOf v).toNat)
  case atStart => exact ⟨0, F', _, by omega, rfl, LO.out, by simp, (by have := HTOT.out; rw [HHN.out] at this; exact this), B2.out⟩
  case round =>
    obtain ⟨k, F1, X, hk, rfl, lo, hX, htot, bw⟩ := hrel
    have L1 := Lib.hid lo
    have TOT := Lib.hid htot
    have BW := Lib.hid bw
    have HX := Lib.hid hX
    obtain ⟨x0, x1, x2⟩ := HC2.out _ bw
    by_cases hkH : k = Hn
    · have hfin : tot = some X := by rw [← htot, List.drop_of_length_le (by rw [HHN.out]; omega)]; rfl
      obtain ⟨y0, y1, y2⟩ := lo.cells
      rw [hX] at y1 y2
      have hco := (HLO.out _ bw).obj
      have f0 : wr.frozen? ⟨c, 0, none⟩ = false := by simp [World.frozen?, hco]
      have f1 : wr.frozen? ⟨c, 1, none⟩ = false := by simp [World.frozen?, hco]
      have f2 : wr.frozen? ⟨c, 2, none⟩ = false := by simp [World.frozen?, hco]
      have g1 := heap_set (j := 0) hco (.int .i64 (M : Int))
      have g2 := heap_set (j := 1) g1 (.slice (some ⟨q', 0, none⟩) (M + Hn) (M + Hn))
      have g3 := heap_set (j := 2) g2 (.slice (some ⟨r', 0, none⟩) Hn Hn)
      have G3 := Lib.hid g3
      have hoth : ∀ b, b ≠ c → (((wr.setCell ⟨c, 0, none⟩ (.int .i64 (M : Int))).setCell ⟨c, 1, none⟩ (.slice (some ⟨q', 0, none⟩) (M + Hn) (M + Hn))).setCell ⟨c, 2, none⟩ (.slice (some ⟨r', 0, none⟩) Hn Hn)).heap[b]? = wr.heap[b]? := fun b hb =>
        ((Below.heap_setCell _ ⟨c, 2, none⟩ _ b hb).trans (Below.heap_setCell _ ⟨c, 1, none⟩ _ b hb)).trans (Below.heap_setCell _ ⟨c, 0, none⟩ _ b hb)
      have HOTH := Lib.hid hoth
      have hl1 := lo.lt
      have hkp : Kp (fun k => k = c) w (((wr.setCell ⟨c, 0, none⟩ (.int .i64 (M : Int))).setCell ⟨c, 1, none⟩ (.slice (some ⟨q', 0, none⟩) (M + Hn) (M + Hn))).setCell ⟨c, 2, none⟩ (.slice (some ⟨r', 0, none⟩) Hn Hn)) :=
        by
        have k1 : Kp (fun k => k = c) w wr := Kp.of bw
        exact ((k1.setCell (b := c) (.inl rfl) _).setCell (b := c) (.inl rfl) _).setCell (b := c) (.inl rfl) _
      have HKP := Lib.hid hkp
      clear lo htot bw hX LO hco g1 g2 g3 hoth hkp
      subst hkH
      have HFIN := Lib.hid hfin
      clear hfin
      go_wp2_with fail
      go_ret
      rw [HFIN.out]
      refine ⟨rfl, ⟨q', r', M + k, k, F1, ⟨?_, ?_, ?_, L1.out.ring, by omega, by omega, L1.out.qr, m1, m2, by rw [HX.out]; exact h1, by rw [HX.out]; exact h2⟩, hq', hr'⟩, HKP.out⟩
      · have := G3.out
        rw [HX.out]
        simpa using this
      · rw [HX.out]
        have hf := L1.out.fw
        rw [HX.out] at hf
        exact hf.of (HOTH.out q' (by omega))
      · exact L1.out.lw.of (HOTH.out r' (by omega))
    · have hlt : k < Hn := by omega
      have i1 : (k : Int) < (Hn : Int) := by omega
      have i0 : (0 : Int) ≤ (k : Int) := by omega
      obtain ⟨l, hl⟩ : ∃ l, Ls[k]? = some l := ⟨Ls[k]'(by rw [HHN.out]; omega), List.getElem?_eq_getElem _⟩
      have hdk : Ls.drop k = l :: Ls.drop (k + 1) := by
        obtain ⟨hi, he⟩ := List.getElem?_eq_some_iff.1 hl
        rw [List.drop_eq_getElem_cons hi, he]
      rw [hdk] at htot
      have HLI := Lib.hid (list_any (HLO.out _ bw) hl)
      have HXN := Lib.hid (HME.out k l hl)
      have hll := (HLO.out _ bw).len_le hl
      have TOT2 := Lib.hid (show (rnL M tf k (l.drop 0) X).bind (rnA M tf (k + 1) (Ls.drop (k + 1))) = tot from htot)
      clear lo htot bw hX hdk TOT hl
      go_wp2_with fail
      refine HLI.out.mono ?_
      rintro e u ⟨kl, bu⟩
      obtain ⟨p, ck, rfl, rup, hpb⟩ := kl_parts kl
      have RUP := Lib.hid rup
      have HPB := Lib.hid hpb
      have BU := Lib.hid (tr BW.out bu)
      have LU := Lib.hid (L1.out.below bu)
      have hsu := bu.size
      obtain ⟨m, hm⟩ : ∃ m, (ints l).length = m := ⟨_, rfl⟩
      rw [hm]
      have HM := Lib.hid (show l.length = m from by rw [← ints_len]; exact hm)
      have hmm : m ≤ 4194304 := by rw [← hm, ints_len]; exact hll
      clear kl rup hpb bu hm hll x0 x1 x2
      go_wp2_with fail
      go_loopw [47] (fun v wr' => ∃ (i : Nat) (F : Fd) (X : List (List Nat)), i ≤ m ∧ v = .int .i64 (i : Int) ∧ Lo wr' c' q' r' (M + Hn) Hn M F X ∧ X.length = Hn ∧ (rnL M tf k (l.drop i) X).bind (rnA M tf (k + 1) (Ls.drop (k + 1))) = tot ∧ Below w.heap.size w wr' ∧ Ru wr' p (ints l)) (fun v _ => m - (intOf v).toNat)
      case atStart => exact ⟨0, F1, X, by omega, rfl, LU.out, HX.out, TOT2.out, BU.out, RUP.out⟩
      case round =>
        obtain ⟨i, F2, Y, hi, rfl, lo, hY, htot, bw, ru⟩ := hrel
        have L2 := Lib.hid lo
        have B3 := Lib.hid bw
        have RU := Lib.hid ru
        have HY := Lib.hid hY
        by_cases him : i = m
        · subst him
          rw [List.drop_of_length_le (by rw [HM.out]; omega)] at htot
          have T3 := Lib.hid (show rnA M tf (k + 1) (Ls.drop (k + 1)) Y = tot from htot)
          clear lo bw ru hY htot
          go_wp2_with fail
          go_roundw
          case rel => exact ⟨k + 1, F2, Y, by omega, by go_num, L2.out, HY.out, T3.out, B3.out⟩
          case measure => simp [intOf] <;> omega
        · have hlt2 : i < m := by omega
          have j1 : (i : Int) < (m : Int) := by omega
          have j0 : (0 : Int) ≤ (i : Int) := by omega
          obtain ⟨x, hx⟩ : ∃ x, l[i]? = some x := ⟨l[i]'(by rw [HM.out]; omega), List.getElem?_eq_getElem _⟩
          have hxN := HXN.out x (List.mem_of_getElem? hx)
          obtain ⟨a, ha⟩ : ∃ a, T[x]? = some a := ⟨T[x]'(by rw [HT.out]; omega), List.getElem?_eq_getElem _⟩
          have ha2 := HW.out a (List.mem_of_getElem? ha)
          have hta : tf x = a := by rw [← HTF.out]; simp [ha]
          obtain ⟨z, rfl, _, e0⟩ := ru i _ (by unfold ints; rw [List.getElem?_map, hx]; rfl)
          obtain ⟨zt, rfl, _, e1⟩ := (HR.out.below bw) x _ (by unfold ints; rw [List.getElem?_map, ha]; rfl)
          have hdi : l.drop i = x :: l.drop (i + 1) := by
            obtain ⟨hi', he⟩ := List.getElem?_eq_some_iff.1 hx
            rw [List.drop_eq_getElem_cons hi', he]
          rw [hdi] at htot
          have hst : ((addB M Y k a).bind (rnL M tf k (l.drop (i + 1)))).bind (rnA M tf (k + 1) (Ls.drop (k + 1))) = tot := by rw [← hta]; exact htot
          have hb := back_by lo (by rw [hY]; exact hlt) ha2
          have k1' : (x : Int) < (N : Int) := by omega
          have k0' : (0 : Int) ≤ (x : Int) := by omega
          cases hA : addB M Y k a with
          | none =>
            rw [hA] at hb hst
            have HBK := Lib.hid hb
            have HN := Lib.hid (show tot = none from hst.symm)
            clear lo bw ru hY htot hb hst hA hx ha hta hdi
            go_wp2_with fail
            refine HBK.out.mono ?_
            rintro e u2 ⟨⟨code, rfl, hcode⟩, kb⟩
            have hc1 : (code != 0) = true := by rw [bne_iff_ne]; exact hcode
            have BE := Lib.hid (B3.out.trans (kb.below (by rintro k hk (rfl | rfl | rfl) <;> omega) B3.out.size))
            clear kb hcode
            go_wp2_with fail
            go_ret
            exact ENDN.out _ BE.out HN.out
          | some Y' =>
            rw [hA] at hb hst
            have HBK := Lib.hid hb
            have HST := Lib.hid hst
            clear lo bw ru hY htot hb hst hA hx ha hta hdi
            go_wp2_with fail
            refine HBK.out.mono ?_
            rintro e u2 ⟨⟨rfl, F3, lo3, hl3⟩, kb⟩
            have L3 := Lib.hid lo3
            have HL3 := Lib.hid hl3
            have BE := Lib.hid (B3.out.trans (kb.below (by rintro k hk (rfl | rfl | rfl) <;> omega) B3.out.size))
            have RE := Lib.hid (RU.out.kp kb (fun y hy h => by have := HPB.out y hy; have := L1.out.lt; rcases h with h | h | h <;> omega))
            clear kb lo3 hl3
            go_wp2_with fail
            go_roundw
            case rel => exact ⟨i + 1, F3, Y', by omega, by go_num, L3.out, by rw [HL3.out, HY.out], HST.out, BE.out, RE.out⟩
            case measure => simp [intOf] <;> omega
end
end Go.Proofs.Ytggimkfepcgaoaa.Lnk
