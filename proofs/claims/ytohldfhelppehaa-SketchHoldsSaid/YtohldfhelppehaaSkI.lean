/-
  Walks over the reference of layer 33: adding a key.
-/
import Derived.Test.YtohldfhelppehaaSkJ
import Derived.StillTailTactics
set_option linter.unusedVariables false
set_option linter.unusedSimpArgs false
namespace Go.Proofs.Ytohldfhelppehaa.Skt
open Go.RowKit Kit Hash Blo
set_option maxRecDepth 100000 in
set_option maxHeartbeats 2000000 in
theorem radd {W : World} {n : Nat} {m t sd : Int} (hs : Word sd) {r c : Nat → Nat} {F : Nat → Nat → Nat} (h : Rw W r n F) (n1 : 16 ≤ n) (n2 : n ≤ 65536) (hF : ∀ i j, F i j ≤ 15) (hm0 : 0 ≤ m) (ht0 : 0 ≤ t) (ht1 : t < 16777216) (k : ByteArray) (hk : k.size ≤ maxLen) :
    Calls Try.prog 38 #[skv n m t sd r c, .string k] W fun e w' => ∃ Q C, e = .returned (.tuple #[skv n m (tA m t) sd Q C, .bool (hv m t)]) ∧ Rw w' Q n (FA m t F (sumN sd k) n) ∧ (∀ i, i < 4 → W.heap.size ≤ Q i ∧ Q i < w'.heap.size) ∧ (∀ i j, i < j → j < 4 → Q i < Q j) ∧ Below W.heap.size W w' := by
  have HCO := Lib.hid (fun (w : World) (hb : Below W.heap.size W w) => rcopy (m := m) (t := t) (sd := sd) (c := c) (h.below hb) n1 n2)
  have HF := Lib.hid hF
  have HPX := Lib.hid (fun (w : World) (Q C : Nat → Nat) => rplc (W := w) (m := m) (t := t) hs (r1 := Q 0) (c1 := C 0) (r2 := Q 1) (c2 := C 1) (r3 := Q 2) (c3 := C 2) (r4 := Q 3) (c4 := C 3) n1 n2 k hk)
  have HPL := Lib.hid (pl4_lt (sumN sd k) (show 0 < n by omega))
  simp only [pv_pl4] at HPX
  have HFA := Lib.hid (show ∀ F x, FA m t F x n = if hv m t then halF (addF F x n) else addF F x n from fun _ _ => rfl)
  have HMA := Lib.hid (midA_step F (sumN sd k) n)
  have HME := Lib.hid (midA_end F (sumN sd k) n n)
  have HM0 := Lib.hid (show ∀ a, a < 4 → ∀ b, b < n → F a b = midA F (sumN sd k) n 0 a b from fun a _ b _ => by unfold midA; rw [if_neg (by omega)])
  have HMT := Lib.hid (midA_at F (sumN sd k) n)
  unfold skv sk at *
  generalize sumN sd k = x at *
  generalize pl4 x n = y at *
  clear h hF hs
  go_enter Try.func38, Try.ntmps38
  go_wp2_with fail
  refine (HCO.out _ (by go_grown)).mono ?_
  rintro e w1 ⟨Q, C, rfl, hr1, hl1, hm1, b1⟩
  have hsz := b1.size
  simp only [World.size_alloc] at hsz hl1
  have B1 := Lib.hid (show Below W.heap.size W w1 from tr (by go_grown) b1)
  obtain ⟨hs1, hs2⟩ := rstart (W := W) (n := n) (m := m) (t := t) (sd := sd) (r := r) (c := c)
  have BX := hs1.below b1
  have ZX := (b1.block _ (by simp)).trans hs2
  have R0 := Lib.hid (Rs.put (m := m) (t := t) (sd := sd) (C := C) BX ZX hr1 (fun i hi => by have := hl1 i hi; omega) hm1 B1.out)
  obtain ⟨⟨g0, g1, g2, g3⟩, ⟨g4, g5, g6, g7⟩⟩ := BX.all
  have gf := BX.fr
  clear hs1 hs2 b1 BX ZX hr1 hl1 hm1
  go_wp2_with fail
  unfold put8 at R0
  generalize (((((((w1.setCell ⟨W.heap.size, 0, none⟩ (.int .i64 n)).setCell ⟨W.heap.size, 1, none⟩ (.int .i64 m)).setCell ⟨W.heap.size, 2, none⟩ (.int .i64 t)).setCell ⟨W.heap.size, 3, none⟩ (.int .u64 sd)).setCell ⟨W.heap.size, 4, none⟩ (.slice (some ⟨Q 0, 0, none⟩) n (C 0))).setCell ⟨W.heap.size, 5, none⟩ (.slice (some ⟨Q 1, 0, none⟩) n (C 1))).setCell ⟨W.heap.size, 6, none⟩ (.slice (some ⟨Q 2, 0, none⟩) n (C 2))).setCell ⟨W.heap.size, 7, none⟩ (.slice (some ⟨Q 3, 0, none⟩) n (C 3)) = U at *
  clear B1 g0 g1 g2 g3 g4 g5 g6 g7 gf hsz
  have S0 := Lib.hid (R0.out.congr HM0.out)
  clear R0
  refine (HPX.out _ Q C).mono ?_
  rintro e w2 ⟨rfl, b2⟩
  have S2 := Lib.hid (S0.out.below b2)
  clear S0 b2
  go_wp2_with fail
  have RY := Lib.hid (show Row (w2.alloc (.cells #[.int .i64 (y 0 : Nat), .int .i64 (y 1 : Nat), .int .i64 (y 2 : Nat), .int .i64 (y 3 : Nat)] 71)) w2.heap.size 4 71 (fun i => .int .i64 (y i : Nat)) from Row.new _ _ _ 4 _ (Nat.le_refl 4) (four rfl rfl rfl rfl))
  have S3 := Lib.hid (S2.out.below (by go_grown : Below w2.heap.size w2 (w2.alloc (.cells #[.int .i64 (y 0 : Nat), .int .i64 (y 1 : Nat), .int .i64 (y 2 : Nat), .int .i64 (y 3 : Nat)] 71))))
  have hyl := HPL.out
  have hql : ∀ i, i < 4 → Q i ≠ w2.heap.size := fun i hi => by have := S2.out.ll i hi; omega
  have HQL := Lib.hid hql
  clear S2 hql hyl
  generalize w2.alloc (.cells #[.int .i64 (y 0 : Nat), .int .i64 (y 1 : Nat), .int .i64 (y 2 : Nat), .int .i64 (y 3 : Nat)] 71) = V at *
  generalize w2.heap.size = pb at *
  go_loopw [7] (fun i wr => ∃ j : Nat, j ≤ 4 ∧ i = .int .i64 j ∧ Rs W wr n m t sd Q C (midA F x n j) ∧ Row wr pb 4 71 (fun i => .int .i64 (y i : Nat))) (fun i _ => 4 - (intOf i).toNat)
  case atStart => exact ⟨0, by omega, rfl, S3.out, RY.out⟩
  case round =>
    clear S3 RY
    obtain ⟨a, ha, rfl, hS, hR⟩ := hrel
    have S1 := Lib.hid hS
    have R1 := Lib.hid hR
    clear hS hR
    by_cases ha4 : a < 4
    · have hd : decide ((a : Int) < 4) = true := decide_eq_true (by omega)
      have ha4i : (a : Int) < 4 := by omega
      have hyi : ((y a : Nat) : Int) < (n : Int) := by have := HPL.out a; omega
      have k0 := S1.out.o.row ha4
      have kp := Row.cell R1.out a ha4
      have hyl := HPL.out a
      have k1 := Row.cell (S1.out.rr a ha4) (y a) hyl
      have k2 := Row.fr (S1.out.rr a ha4) (y a)
      have hz := HF.out a (y a)
      have hql := S1.out.ll a ha4
      have hqp := HQL.out a ha4
      rw [HMT.out] at k1
      have S1d := Lib.hid (S1.out.below ((Below.refl _ _).drew : Below wr.heap.size wr wr.drew))
      have k1d : wr.drew.cell? ⟨Q a, y a, none⟩ = some (.int .i64 (F a (y a) : Nat)) := k1
      have k2d : wr.drew.frozen? ⟨Q a, y a, none⟩ = false := k2
      have SS := Lib.hid (S1d.out.setr ha4 (y a) (min 15 (F a (y a) + 1)))
      have RR := Lib.hid (Row.other (Row.of_block (W' := wr.drew) R1.out rfl) (a := ⟨Q a, y a, none⟩) (Ne.symm hqp) (.int .i64 ((min 15 (F a (y a) + 1) : Nat) : Int)))
      have hst := HMA.out a
      rw [hst] at SS
      clear hst
      generalize F a (y a) = z at *
      generalize y a = ya at *
      generalize hqr : Q a = qr at *
      generalize hcr : C a = cr at *
      have hw1 : IntKind.i64.wrap ((z : Int) + 1) = (z : Int) + 1 := IntWalk.i64_in _ (by omega)
      have hmn : min (15 : Int) ((z : Int) + 1) = ((min 15 (z + 1) : Nat) : Int) := by omega
      generalize hv : min 15 (z + 1) = v at *
      have hval : (if (z : Int) + 1 < 15 then (z : Int) + 1 else 15) = ((v : Nat) : Int) := by rw [← hmn]; split <;> omega
      have HVAL := Lib.hid hval
      clear hqr hcr hv hval S1 R1 S1d
      go_wp2_with fail
      go_still_tail 19, (by kernel_rfl)
      rw [HVAL.out]
      change wpList _ _ _ _ _ wr.drew
      generalize wr.drew = Vd at *
      go_wp2_with fail
      go_roundw
      case rel => exact ⟨a + 1, by omega, by go_num, SS.out, RR.out⟩
      case measure => simp [intOf] <;> omega
    · obtain rfl : a = 4 := by omega
      have hd4 : decide (((4 : Nat) : Int) < 4) = false := by decide
      have S2 := Lib.hid (S1.out.congr HME.out)
      obtain ⟨⟨g0, g1, g2, g3⟩, ⟨g4, g5, g6, g7⟩⟩ := S1.out.o.all
      obtain ⟨⟨z0, z1, z2, z3⟩, ⟨z4, z5, z6, z7⟩, zf⟩ := zcell S1.out.z
      have gf2 := S1.out.o.fr 2
      have hbl := S1.out.o.lt
      have hzl := S1.out.lt
      have S3 := Lib.hid (S2.out.sett (t + 1))
      have hwt : IntKind.i64.wrap (t + 1) = t + 1 := IntWalk.i64_in _ (by omega)
      clear S1 R1 S2
      have HAF := Lib.hid (addF_le HF.out x n)
      have HFA2 := Lib.hid (HFA.out F x)
      generalize addF F x n = G at *
      cases hhv : hv m t
      all_goals have HHV := Lib.hid hhv
      · have HT := Lib.hid (show tA m t = t + 1 by unfold tA; rw [hhv]; rfl)
        have HFF := Lib.hid (show FA m t F x n = G by rw [HFA2.out, hhv]; rfl)
        by_cases hm : m = 0
        · subst hm
          clear hhv
          have h0d : decide ((0 : Int) < 0) = false := by decide
          go_wp2_with fail
          generalize wr.setCell ⟨W.heap.size, 2, none⟩ (.int .i64 (t + 1)) = V at *
          have BU := Lib.hid (put8_o (n := n) (m := 0) (t := t + 1) (sd := sd) (Q := Q) (C := C) S3.out.z)
          have KU := Lib.hid (put8_but (w := V) (b := W.heap.size + 1) (n := n) (m := 0) (t := t + 1) (sd := sd) (Q := Q) (C := C))
          have SU := Lib.hid (put8_size (w := V) (b := W.heap.size + 1) (n := n) (m := 0) (t := t + 1) (sd := sd) (Q := Q) (C := C))
          unfold put8 at BU KU SU
          generalize (((((((V.setCell ⟨W.heap.size + 1, 0, none⟩ (.int .i64 n)).setCell ⟨W.heap.size + 1, 1, none⟩ (.int .i64 0)).setCell ⟨W.heap.size + 1, 2, none⟩ (.int .i64 (t + 1))).setCell ⟨W.heap.size + 1, 3, none⟩ (.int .u64 sd)).setCell ⟨W.heap.size + 1, 4, none⟩ (.slice (some ⟨Q 0, 0, none⟩) n (C 0))).setCell ⟨W.heap.size + 1, 5, none⟩ (.slice (some ⟨Q 1, 0, none⟩) n (C 1))).setCell ⟨W.heap.size + 1, 6, none⟩ (.slice (some ⟨Q 2, 0, none⟩) n (C 2))).setCell ⟨W.heap.size + 1, 7, none⟩ (.slice (some ⟨Q 3, 0, none⟩) n (C 3)) = U at *
          obtain ⟨⟨k0, k1, k2, k3⟩, ⟨k4, k5, k6, k7⟩⟩ := BU.out.all
          refine bodyPost_ret (v := .tuple #[skv n 0 (t + 1) sd Q C, .bool false]) (by simp [skv, sk, results, k0, k1, k2, k3, k4, k5, k6, k7, Try.results38, go_sem]) rfl ⟨Q, C, by rw [HT.out, HHV.out]; rfl, fun i hi => ?_, fun i hi => ?_, S3.out.mm, ?_⟩
          · rw [HFF.out]; exact Row.but (S3.out.rr i hi) KU.out (by have := S3.out.ll i hi; omega)
          · have := S3.out.ll i hi; have := SU.out; omega
          · exact S3.out.bb.trans (KU.out.below (Nat.le_succ _) S3.out.bb.size)
        · have h2 : (t + 1 == m) = false := by
            unfold hv at hhv
            cases h3 : (t + 1 == m)
            · rfl
            · rw [h3, show (m == 0) = false from beq_eq_false_iff_ne.2 hm] at hhv; cases hhv
          have h0 : 0 < m := by omega
          have h0d : decide (0 < m) = true := decide_eq_true h0
          clear hhv
          go_wp2_with fail
          generalize wr.setCell ⟨W.heap.size, 2, none⟩ (.int .i64 (t + 1)) = V at *
          have BU := Lib.hid (put8_o (n := n) (m := m) (t := t + 1) (sd := sd) (Q := Q) (C := C) S3.out.z)
          have KU := Lib.hid (put8_but (w := V) (b := W.heap.size + 1) (n := n) (m := m) (t := t + 1) (sd := sd) (Q := Q) (C := C))
          have SU := Lib.hid (put8_size (w := V) (b := W.heap.size + 1) (n := n) (m := m) (t := t + 1) (sd := sd) (Q := Q) (C := C))
          unfold put8 at BU KU SU
          generalize (((((((V.setCell ⟨W.heap.size + 1, 0, none⟩ (.int .i64 n)).setCell ⟨W.heap.size + 1, 1, none⟩ (.int .i64 m)).setCell ⟨W.heap.size + 1, 2, none⟩ (.int .i64 (t + 1))).setCell ⟨W.heap.size + 1, 3, none⟩ (.int .u64 sd)).setCell ⟨W.heap.size + 1, 4, none⟩ (.slice (some ⟨Q 0, 0, none⟩) n (C 0))).setCell ⟨W.heap.size + 1, 5, none⟩ (.slice (some ⟨Q 1, 0, none⟩) n (C 1))).setCell ⟨W.heap.size + 1, 6, none⟩ (.slice (some ⟨Q 2, 0, none⟩) n (C 2))).setCell ⟨W.heap.size + 1, 7, none⟩ (.slice (some ⟨Q 3, 0, none⟩) n (C 3)) = U at *
          obtain ⟨⟨k0, k1, k2, k3⟩, ⟨k4, k5, k6, k7⟩⟩ := BU.out.all
          refine bodyPost_ret (v := .tuple #[skv n m (t + 1) sd Q C, .bool false]) (by simp [skv, sk, results, k0, k1, k2, k3, k4, k5, k6, k7, Try.results38, go_sem]) rfl ⟨Q, C, by rw [HT.out, HHV.out]; rfl, fun i hi => ?_, fun i hi => ?_, S3.out.mm, ?_⟩
          · rw [HFF.out]; exact Row.but (S3.out.rr i hi) KU.out (by have := S3.out.ll i hi; omega)
          · have := S3.out.ll i hi; have := SU.out; omega
          · exact S3.out.bb.trans (KU.out.below (Nat.le_succ _) S3.out.bb.size)
      · have HT := Lib.hid (show tA m t = (t + 1) / 2 by unfold tA; rw [hhv]; rfl)
        have HFF := Lib.hid (show FA m t F x n = halF G by rw [HFA2.out, hhv]; rfl)
        unfold hv at hhv
        simp only [Bool.and_eq_true, Bool.not_eq_true', beq_eq_false_iff_ne, beq_iff_eq] at hhv
        obtain ⟨hm, h2'⟩ := hhv
        have h2 : (t + 1 == m) = true := by rw [beq_iff_eq]; exact h2'
        have h0 : 0 < m := by omega
        have h0d : decide (0 < m) = true := decide_eq_true h0
        clear h2' hm
        have HH := Lib.hid (rhalve (m := m) (t := t + 1) (sd := sd) (c := C) (show Rw (wr.setCell ⟨W.heap.size, 2, none⟩ (.int .i64 (t + 1))) Q n G from S3.out.rr) n1 n2 HAF.out (by omega) (by omega))
        unfold skv sk at HH
        go_wp2_with fail
        generalize wr.setCell ⟨W.heap.size, 2, none⟩ (.int .i64 (t + 1)) = V at *
        refine HH.out.mono ?_
        rintro e w3 ⟨Q', C', rfl, hr3, hl3, hm3, b3⟩
        have hs3 := b3.size
        have HR3 := Lib.hid hr3
        have HL3 := Lib.hid hl3
        have HM3 := Lib.hid hm3
        have Z3 := Lib.hid ((b3.block _ S3.out.lt).trans S3.out.z)
        have B3 := Lib.hid (S3.out.bb.trans (b3.mono S3.out.bb.size))
        have hzl3 : W.heap.size + 1 < V.heap.size := S3.out.lt
        obtain ⟨⟨z0, z1, z2, z3⟩, ⟨z4, z5, z6, z7⟩, zf⟩ := zcell Z3.out
        clear hr3 hl3 hm3 b3
        go_wp2_with fail
        have BU := Lib.hid (put8_o (n := n) (m := m) (t := (t + 1) / 2) (sd := sd) (Q := Q') (C := C') Z3.out)
        have KU := Lib.hid (put8_but (w := w3) (b := W.heap.size + 1) (n := n) (m := m) (t := (t + 1) / 2) (sd := sd) (Q := Q') (C := C'))
        have SU := Lib.hid (put8_size (w := w3) (b := W.heap.size + 1) (n := n) (m := m) (t := (t + 1) / 2) (sd := sd) (Q := Q') (C := C'))
        unfold put8 at BU KU SU
        generalize (((((((w3.setCell ⟨W.heap.size + 1, 0, none⟩ (.int .i64 n)).setCell ⟨W.heap.size + 1, 1, none⟩ (.int .i64 m)).setCell ⟨W.heap.size + 1, 2, none⟩ (.int .i64 ((t + 1) / 2))).setCell ⟨W.heap.size + 1, 3, none⟩ (.int .u64 sd)).setCell ⟨W.heap.size + 1, 4, none⟩ (.slice (some ⟨Q' 0, 0, none⟩) n (C' 0))).setCell ⟨W.heap.size + 1, 5, none⟩ (.slice (some ⟨Q' 1, 0, none⟩) n (C' 1))).setCell ⟨W.heap.size + 1, 6, none⟩ (.slice (some ⟨Q' 2, 0, none⟩) n (C' 2))).setCell ⟨W.heap.size + 1, 7, none⟩ (.slice (some ⟨Q' 3, 0, none⟩) n (C' 3)) = U at *
        obtain ⟨⟨k0, k1, k2, k3⟩, ⟨k4, k5, k6, k7⟩⟩ := BU.out.all
        refine bodyPost_ret (v := .tuple #[skv n m ((t + 1) / 2) sd Q' C', .bool true]) (by simp [skv, sk, results, k0, k1, k2, k3, k4, k5, k6, k7, Try.results38, go_sem]) rfl ⟨Q', C', by rw [HT.out, HHV.out]; rfl, fun i hi => ?_, fun i hi => ?_, HM3.out, ?_⟩
        · rw [HFF.out]; exact Row.but (HR3.out i hi) KU.out (by have := HL3.out i hi; omega)
        · have := HL3.out i hi; have := SU.out; omega
        · exact B3.out.trans (KU.out.below (Nat.le_succ _) B3.out.size)
end Go.Proofs.Ytohldfhelppehaa.Skt
