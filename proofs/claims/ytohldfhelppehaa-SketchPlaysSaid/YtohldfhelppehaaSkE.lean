/-
  The law of layer 33 on any calls.
-/
import Derived.Test.YtohldfhelppehaaSkF
set_option linter.unusedVariables false
set_option linter.unusedSimpArgs false
namespace Go.Proofs.Ytohldfhelppehaa.Skt
open Go.RowKit Kit Hash Blo
theorem setI64 {w : World} {g n : Nat} {F : Nat → Int} (h : Row w g n 3 (fun i => .int .i64 (F i))) (m : Nat) (z : Int) : ∃ F : Nat → Int, Row (w.setCell ⟨g, m, none⟩ (.int .i64 z)) g n 3 (fun i => .int .i64 (F i)) :=
  ⟨fun i => if i = m then z else F i, (h.set m _).congr fun i _ => by by_cases hh : i = m <;> simp [hh]⟩
theorem tA_le {m t : Int} (h0 : 0 ≤ t) {j : Nat} (h : t ≤ j) : 0 ≤ tA m t ∧ tA m t ≤ ((j + 1 : Nat) : Int) := by
  unfold tA
  split <;> omega
theorem FA_le {m t : Int} {F : Nat → Nat → Nat} (h : ∀ i j, F i j ≤ 15) (x n : Nat) : ∀ i j, FA m t F x n i j ≤ 15 := fun i j => by
  unfold FA
  split
  · exact halF_le (addF_le h x n) i j
  · exact addF_le h x n i j
set_option maxRecDepth 100000 in
set_option maxHeartbeats 8000000 in
theorem lplays_ok {W : World} {b m sd : Int} {n : Nat} (hin : In b m) (ha : als b m = true) (hbn : b = n) (n1 : 16 ≤ n) (n2 : n ≤ 65536) (hsd : Word sd) {a : Option Addr} {len cap : Nat} {f0 : Nat → Int} {f1 : Nat → ByteArray} (hacts : Acts W a len f0 f1)
    (hb1 : b ≤ 64) (hm0 : 0 ≤ m) (hm1 : m ≤ 100) (hfew : fewB len 60 f1 = true) (hk : Kns W) :
    Calls Try.prog 10 #[.int .i64 b, .int .u64 sd, .int .i64 m, .slice a len cap] W fun e w' => e = .returned (.bool true) ∧ Below W.heap.size W w' := by
  have HK := Lib.hid hk
  have HR := Lib.hid (fun w => rnew (W := w) (sd := sd) hin ha hbn)
  have HN := Lib.hid (fun w => new_skf (sd := sd) ha hbn w)
  have HFEW := Lib.hid (fun (w : World) (hb : Below W.heap.size W w) => few_any (cap := cap) (hacts.below hb))
  rw [hfew] at HFEW
  obtain ⟨hlen, hkeys⟩ := fewB_spec hfew
  have HA := Lib.hid hacts
  have HKEYS := Lib.hid hkeys
  clear hk ha hin hacts hfew hkeys
  subst hbn
  unfold skv sk at HR
  go_enter Try.func10, Try.ntmps10
  go_wp2_with fail
  refine (HR.out _).mono ?_
  rintro e w1 ⟨r, rc, rfl, hr1, hg1, b1⟩
  have R1 := Lib.hid hr1
  have B1 := Lib.hid b1
  have HG1 := Lib.hid hg1
  clear hr1 b1 hg1
  go_wp2_with fail
  have C2 := Lib.hid (tr B1.out (by go_grown : Below w1.heap.size w1 (w1.alloc (hO n m 0 sd r rc))))
  have Z2 := Lib.hid (show Bs (w1.alloc (hO n m 0 sd r rc)) w1.heap.size n m 0 sd r rc from (MapKept.heap_alloc w1 _).1)
  have R2 := Lib.hid (R1.out.below (by go_grown : Below w1.heap.size w1 (w1.alloc (hO n m 0 sd r rc))))
  have hs2 : (w1.alloc (hO n m 0 sd r rc)).heap.size = w1.heap.size + 1 := by simp
  unfold hO at C2 Z2 R2 hs2
  refine (HFEW.out _ C2.out).mono ?_
  rintro e w3 ⟨rfl, b3⟩
  have hs3 := b3.size
  rw [hs2] at hs3
  have Z3 := Lib.hid (Z2.out.below b3)
  have R3 := Lib.hid (R2.out.below b3)
  have C3 := Lib.hid (tr C2.out b3)
  clear b3 R1 C2 Z2 R2 hs2
  go_wp2_with fail
  refine (HN.out _).mono ?_
  rintro e w5 ⟨p, q, c, rfl, hf, b5⟩
  have hs5 := b5.size
  have hW1 := B1.out.size
  have P5 := Lib.hid (show Pk W w5 w1.heap.size p w3.heap.size w5.heap.size n m sd q c r rc 0 (fun _ _ => 0) 0 (fun _ _ => 0) from
    ⟨hf, Z3.out.below b5, R3.out.below b5, tr C3.out b5, ⟨by omega, by have := C3.out.size; omega⟩, by omega, fun i hi => by have := HG1.out i hi; omega⟩)
  clear hf b5 Z3 R3 C3 B1 HG1
  generalize w1.heap.size = bx at *
  generalize w3.heap.size = lo0 at *
  generalize w5.heap.size = hi0 at *
  go_wp2_with fail
  go_loopw [11, 13] (fun f i wr => ∃ (j p lo hi : Nat) (q c r rc : Nat → Nat) (t : Int) (F : Nat → Nat → Nat), j ≤ len ∧ f = .pointer (some ⟨p, 0, none⟩) ∧ i = .int .i64 j ∧ Pk W wr bx p lo hi n m sd q c r rc t F t F ∧ (0 ≤ t ∧ t ≤ j) ∧ ∀ i j, F i j ≤ 15) (fun _ i _ => len - (intOf i).toNat)
  case atStart => exact ⟨0, p, lo0, hi0, q, c, r, rc, 0, _, by omega, rfl, rfl, P5.out, ⟨Int.le_refl _, Int.le_refl _⟩, fun _ _ => Nat.zero_le _⟩
  case round =>
    clear P5 hs5 hs3 hW1
    obtain ⟨j, p, lo, hi, q, c, r, rc, t, F, hj, rfl, rfl, hP, ⟨ht0, htj⟩, hF⟩ := hrel
    have P := Lib.hid hP
    have HF := Lib.hid hF
    clear hP hF
    by_cases hlt : j < len
    · obtain ⟨x, rfl, hxb, y0, y1, y2⟩ := HA.out.below P.out.w j hlt
      have hk3 := HKEYS.out j hlt
      generalize f1 j = k at *
      generalize f0 j = what at *
      have A := Lib.hid (show Bk3 (wr.alloc (.cells #[.int .i64 what, .string k] 76)) wr.heap.size what k from (MapKept.heap_alloc wr _).1)
      have hb6 : Below wr.heap.size wr (wr.alloc (.cells #[.int .i64 what, .string k] 76)) := by go_grown
      have P6 := Lib.hid (P.out.below hb6)
      have hkm : k.size ≤ maxLen := by unfold maxLen; omega
      have hsz := P.out.f.sz
      have hbw := P.out.z.lt
      have hdd := P.out.d
      have hgg := P.out.g
      have hrw : ∀ i, i < 4 → r i < wr.heap.size := fun i hi => (P.out.rr i hi).lt
      have HRW := Lib.hid hrw
      have HRD := Lib.hid P.out.dr
      clear hb6 hrw
      by_cases c0 : what = 0
      · subst c0
        go_wp2_with fail
        refine (padd hsd P6.out.f n1 n2 HF.out ht0 (by omega) k hkm).mono ?_
        rintro e w7 ⟨rfl, f7, k7⟩
        have P7 := Lib.hid (P6.out.upd f7 k7)
        have A7 := Lib.hid (A.out.keep k7 (.inr (by omega)))
        have hs7 := k7.size
        simp only [World.size_alloc] at hs7
        have hsz7 := f7.sz
        clear f7 k7 P6 A P
        obtain ⟨⟨g0, g1, g2, g3⟩, ⟨g4, g5, g6, g7⟩⟩ := P7.out.z.all
        have a1 := A7.out.c1
        go_wp2_with fail
        have HRA := Lib.hid (radd (c := rc) hsd P7.out.rr n1 n2 HF.out hm0 ht0 (by omega) k hkm)
        unfold skv sk at HRA
        refine HRA.out.mono ?_
        rintro e w9 ⟨Q, C, rfl, hr9, hl9, -, b9⟩
        clear HRA
        have H9 := Lib.hid (show Rw w9 Q n (FA m t F (sumN sd k) n) from hr9)
        have HL9 := Lib.hid (fun i (hi4 : i < 4) => Nat.le_trans hsz7 (hl9 i hi4).1)
        have P9 := Lib.hid (P7.out.below b9)
        have A9 := Lib.hid (A7.out.below b9)
        have hs9 := b9.size
        have hl99 := hl9 0 (by decide)
        clear hr9 hl9 b9 g0 g1 g2 g3 g4 g5 g6 g7 a1 P7 A7
        obtain ⟨⟨g0, g1, g2, g3⟩, ⟨g4, g5, g6, g7⟩⟩ := P9.out.z.all
        have gf := P9.out.z.fr
        have a1 := A9.out.c1
        have gbl := P9.out.z.lt
        have HT' := Lib.hid (tA_le (m := m) ht0 htj)
        have HF' := Lib.hid (FA_le (m := m) (t := t) HF.out (sumN sd k) n)
        generalize FA m t F (sumN sd k) n = F' at *
        generalize tA m t = t' at *
        have hgr : Below (put8 w9 bx n m t' sd Q C).heap.size (put8 w9 bx n m t' sd Q C) ((put8 w9 bx n m t' sd Q C).alloc (hO n m t' sd Q C)) := by go_grown
        have PX := Lib.hid ((P9.out.put (rc' := C) (tr' := t') H9.out HL9.out).below hgr)
        have AX := Lib.hid ((A9.out.but (put8_but (n := n) (m := m) (t := t') (sd := sd) (Q := Q) (C := C)) (by omega)).below hgr)
        have hsX : ((put8 w9 bx n m t' sd Q C).alloc (hO n m t' sd Q C)).heap.size = w9.heap.size + 1 := by rw [World.size_alloc, put8_size]
        clear hgr
        unfold put8 hO at PX AX hsX
        generalize hv m t = hb at *
        have hbb : (hb != hb) = false := by cases hb <;> rfl
        go_wp2_with fail
        clear g0 g1 g2 g3 g4 g5 g6 g7 a1 gf gbl P9 A9 H9 HL9
        generalize ((((((((w9.setCell ⟨bx, 0, none⟩ (.int .i64 n)).setCell ⟨bx, 1, none⟩ (.int .i64 m)).setCell ⟨bx, 2, none⟩ (.int .i64 t')).setCell ⟨bx, 3, none⟩ (.int .u64 sd)).setCell ⟨bx, 4, none⟩ (.slice (some ⟨Q 0, 0, none⟩) n (C 0))).setCell ⟨bx, 5, none⟩ (.slice (some ⟨Q 1, 0, none⟩) n (C 1))).setCell ⟨bx, 6, none⟩ (.slice (some ⟨Q 2, 0, none⟩) n (C 2))).setCell ⟨bx, 7, none⟩ (.slice (some ⟨Q 3, 0, none⟩) n (C 3))).alloc (.cells #[.int .i64 n, .int .i64 m, .int .i64 t', .int .u64 sd, .slice (some ⟨Q 0, 0, none⟩) n (C 0), .slice (some ⟨Q 1, 0, none⟩) n (C 1), .slice (some ⟨Q 2, 0, none⟩) n (C 2), .slice (some ⟨Q 3, 0, none⟩) n (C 3)] 62) = VX at *
        have hj4 : j % 4 < 4 := Nat.mod_lt _ (by decide)
        rw [show ((j : Int) % 4) = ((j % 4 : Nat) : Int) from rfl]
        refine (prow PX.out.f.s n1 n2 hj4 (PX.out.f.cr hj4) (fun i => by have := HF'.out (j % 4) i; omega) (PX.out.f.r _ hj4)).mono ?_
        rintro e w12 ⟨g, rfl, hg, hgl, b12⟩
        have P12 := Lib.hid (PX.out.below b12)
        have A12 := Lib.hid (AX.out.below b12)
        have hfz := PX.out.f.sz
        have hpz := PX.out.z.lt
        have hdz := PX.out.d
        have HRZ := Lib.hid (show ∀ i, i < 4 → _ < VX.heap.size from fun i hi => (PX.out.rr i hi).lt)
        have hwz := PX.out.w.size
        have haz := AX.out.lt
        have RW := Lib.hid (show ∃ G : Nat → Int, Row w12 g n 3 (fun i => .int .i64 (G i)) from ⟨_, hg⟩)
        clear b12 hg PX AX
        go_wp2_with fail
        go_loopw [22] (fun kk wt => ∃ mm : Nat, mm ≤ n ∧ kk = .int .i64 mm ∧ (∃ G : Nat → Int, Row wt g n 3 (fun i => .int .i64 (G i))) ∧ But g w12 wt) (fun kk _ => n - (intOf kk).toNat)
        case atStart => exact ⟨0, by omega, rfl, RW.out, But.refl _ _⟩
        case round =>
          clear RW
          obtain ⟨mm, hmm, rfl, ⟨G, hG⟩, hbt⟩ := hrel
          have RT := Lib.hid hG
          have BT := Lib.hid hbt
          clear hG hbt
          by_cases hmn : mm < n
          · have hc := RT.out.cell mm hmn
            have hfr := RT.out.fr mm
            have hgl2 := RT.out.lt
            go_wp2_with fail
            go_roundw
            case rel => exact ⟨mm + 1, by omega, by go_num, setI64 RT.out mm _, BT.out.setCell _⟩
            case measure => simp [intOf] <;> omega
          · obtain rfl : mm = n := by omega
            have PT := Lib.hid (P12.out.far BT.out (by omega) (.inr (by omega)) (by omega) (fun i hi => by have := HRZ.out i hi; omega))
            have AT := Lib.hid (A12.out.but BT.out (by omega))
            clear P12 A12 RT BT
            obtain ⟨⟨t0, t1, t2, t3⟩, ⟨t4, t5, t6, t7⟩⟩ := PT.out.z.all
            have t8 := AT.out.c1
            have HEQ := Lib.hid (equal_any (rc := C) hsd PT.out.f PT.out.rr n1 n2 HF'.out k hkm)
            unfold skv sk at HEQ
            go_wp2_with fail
            refine HEQ.out.mono ?_
            rintro e w13 ⟨rfl, b13⟩
            have P13 := Lib.hid (PT.out.below b13)
            clear b13 PT AT t0 t1 t2 t3 t4 t5 t6 t7 t8
            go_wp2_with fail
            go_roundw
            case rel => exact ⟨j + 1, _, _, _, _, _, _, _, _, _, by omega, rfl, by go_num, P13.out, HT'.out, HF'.out⟩
            case measure => simp [intOf] <;> omega
      by_cases c1 : what = 1
      · subst c1
        have htb : t ≤ 16777216 := by omega
        go_wp2_with fail
        refine (phalve P6.out.f n1 n2 HF.out ht0 htb).mono ?_
        rintro e w7 ⟨rfl, f7, k7⟩
        have P7 := Lib.hid (P6.out.upd f7 k7)
        have A7 := Lib.hid (A.out.keep k7 (.inr (by omega)))
        have hs7 := k7.size
        simp only [World.size_alloc] at hs7
        have hsz7 := f7.sz
        clear f7 k7 P6 A P
        obtain ⟨⟨g0, g1, g2, g3⟩, ⟨g4, g5, g6, g7⟩⟩ := P7.out.z.all
        go_wp2_with fail
        have HRA := Lib.hid (rhalve (m := m) (t := t) (sd := sd) (c := rc) P7.out.rr n1 n2 HF.out ht0 htb)
        unfold skv sk at HRA
        refine HRA.out.mono ?_
        rintro e w9 ⟨Q, C, rfl, hr9, hl9, -, b9⟩
        clear HRA
        have H9 := Lib.hid (show Rw w9 Q n (halF F) from hr9)
        have HL9 := Lib.hid (fun i (hi4 : i < 4) => Nat.le_trans hsz7 (hl9 i hi4).1)
        have P9 := Lib.hid (P7.out.below b9)
        have A9 := Lib.hid (A7.out.below b9)
        have hs9 := b9.size
        have hl99 := hl9 0 (by decide)
        clear hr9 hl9 b9 g0 g1 g2 g3 g4 g5 g6 g7 P7 A7
        have gf := P9.out.z.fr
        have gbl := P9.out.z.lt
        obtain ⟨⟨g0, g1, g2, g3⟩, ⟨g4, g5, g6, g7⟩⟩ := P9.out.z.all
        have HT' := Lib.hid (show 0 ≤ t / 2 ∧ t / 2 ≤ ((j + 1 : Nat) : Int) by omega)
        have HF' := Lib.hid (halF_le HF.out)
        generalize halF F = F' at *
        generalize t / 2 = t' at *
        have PX := Lib.hid (P9.out.put (rc' := C) (tr' := t') H9.out HL9.out)
        have AX := Lib.hid (A9.out.but (put8_but (w := w9) (b := bx) (n := n) (m := m) (t := t') (sd := sd) (Q := Q) (C := C)) (by omega))
        have hsX : (put8 w9 bx n m t' sd Q C).heap.size = w9.heap.size := put8_size
        unfold put8 at PX AX hsX
        go_wp2_with fail
        clear g0 g1 g2 g3 g4 g5 g6 g7 gf gbl P9 A9 H9 HL9
        generalize (((((((w9.setCell ⟨bx, 0, none⟩ (.int .i64 n)).setCell ⟨bx, 1, none⟩ (.int .i64 m)).setCell ⟨bx, 2, none⟩ (.int .i64 t')).setCell ⟨bx, 3, none⟩ (.int .u64 sd)).setCell ⟨bx, 4, none⟩ (.slice (some ⟨Q 0, 0, none⟩) n (C 0))).setCell ⟨bx, 5, none⟩ (.slice (some ⟨Q 1, 0, none⟩) n (C 1))).setCell ⟨bx, 6, none⟩ (.slice (some ⟨Q 2, 0, none⟩) n (C 2))).setCell ⟨bx, 7, none⟩ (.slice (some ⟨Q 3, 0, none⟩) n (C 3)) = VX at *
        have hj4 : j % 4 < 4 := Nat.mod_lt _ (by decide)
        rw [show ((j : Int) % 4) = ((j % 4 : Nat) : Int) from rfl]
        refine (prow PX.out.f.s n1 n2 hj4 (PX.out.f.cr hj4) (fun i => by have := HF'.out (j % 4) i; omega) (PX.out.f.r _ hj4)).mono ?_
        rintro e w12 ⟨g, rfl, hg, hgl, b12⟩
        have P12 := Lib.hid (PX.out.below b12)
        have A12 := Lib.hid (AX.out.below b12)
        have hfz := PX.out.f.sz
        have hpz := PX.out.z.lt
        have hdz := PX.out.d
        have HRZ := Lib.hid (show ∀ i, i < 4 → _ < VX.heap.size from fun i hi => (PX.out.rr i hi).lt)
        have hwz := PX.out.w.size
        have haz := AX.out.lt
        have RW := Lib.hid (show ∃ G : Nat → Int, Row w12 g n 3 (fun i => .int .i64 (G i)) from ⟨_, hg⟩)
        clear b12 hg PX AX
        go_wp2_with fail
        go_loopw [22] (fun kk wt => ∃ mm : Nat, mm ≤ n ∧ kk = .int .i64 mm ∧ (∃ G : Nat → Int, Row wt g n 3 (fun i => .int .i64 (G i))) ∧ But g w12 wt) (fun kk _ => n - (intOf kk).toNat)
        case atStart => exact ⟨0, by omega, rfl, RW.out, But.refl _ _⟩
        case round =>
          clear RW
          obtain ⟨mm, hmm, rfl, ⟨G, hG⟩, hbt⟩ := hrel
          have RT := Lib.hid hG
          have BT := Lib.hid hbt
          clear hG hbt
          by_cases hmn : mm < n
          · have hc := RT.out.cell mm hmn
            have hfr := RT.out.fr mm
            have hgl2 := RT.out.lt
            go_wp2_with fail
            go_roundw
            case rel => exact ⟨mm + 1, by omega, by go_num, setI64 RT.out mm _, BT.out.setCell _⟩
            case measure => simp [intOf] <;> omega
          · obtain rfl : mm = n := by omega
            have PT := Lib.hid (P12.out.far BT.out (by omega) (.inr (by omega)) (by omega) (fun i hi => by have := HRZ.out i hi; omega))
            have AT := Lib.hid (A12.out.but BT.out (by omega))
            clear P12 A12 RT BT
            obtain ⟨⟨t0, t1, t2, t3⟩, ⟨t4, t5, t6, t7⟩⟩ := PT.out.z.all
            have t8 := AT.out.c1
            have HEQ := Lib.hid (equal_any (rc := C) hsd PT.out.f PT.out.rr n1 n2 HF'.out k hkm)
            unfold skv sk at HEQ
            go_wp2_with fail
            refine HEQ.out.mono ?_
            rintro e w13 ⟨rfl, b13⟩
            have P13 := Lib.hid (PT.out.below b13)
            clear b13 PT AT t0 t1 t2 t3 t4 t5 t6 t7 t8
            go_wp2_with fail
            go_roundw
            case rel => exact ⟨j + 1, _, _, _, _, _, _, _, _, _, by omega, rfl, by go_num, P13.out, HT'.out, HF'.out⟩
            case measure => simp [intOf] <;> omega
      · go_wp2_with fail
        refine (pcopy P6.out.f n1 n2).mono ?_
        rintro e w7 ⟨p', q', c', rfl, f7, b7⟩
        have hs7 := b7.size
        have P7 := Lib.hid (P6.out.below b7)
        have A7 := Lib.hid (A.out.below b7)
        have F7 := Lib.hid f7
        simp only [World.size_alloc] at hs7
        have hsw : (wr.alloc (.cells #[.int .i64 what, .string k] 76)).heap.size = wr.heap.size + 1 := by simp
        clear f7 b7 P6 A P
        have a1 := A7.out.c1
        go_wp2_with fail
        refine (padd hsd P7.out.f n1 n2 HF.out ht0 (by omega) k hkm).mono ?_
        rintro e w8 ⟨rfl, f8, k8⟩
        have P8 := Lib.hid (P7.out.upd f8 k8)
        have A8 := Lib.hid (A7.out.keep k8 (.inr (by omega)))
        have F8 := Lib.hid (F7.out.keep k8 (.inr (by rw [hsw]; omega)))
        have hs8 := k8.size
        have HT8 := tA_le (m := m) ht0 htj
        have HF8 := Lib.hid (FA_le (m := m) (t := t) HF.out (sumN sd k) n)
        clear f8 k8 P7 A7 F7 a1
        go_wp2_with fail
        refine (phalve P8.out.f n1 n2 HF8.out HT8.1 (by omega)).mono ?_
        rintro e w9 ⟨rfl, f9, k9⟩
        have P9 := Lib.hid (P8.out.upd f9 k9)
        have AX := Lib.hid (A8.out.keep k9 (.inr (by omega)))
        have F9 := Lib.hid (F8.out.keep k9 (.inr (by rw [hsw]; omega)))
        have hs9 := k9.size
        clear f9 k9 P8 A8 F8
        have PX := Lib.hid (P9.out.newf F9.out (by rw [hsw]; omega) (fun i hi => by have := HRW.out i hi; rw [hsw]; omega))
        clear P9 F9
        have HT' := Lib.hid (show 0 ≤ t ∧ t ≤ ((j + 1 : Nat) : Int) by omega)
        have HF' := Lib.hid HF.out
        have hsX : w9.heap.size = w9.heap.size := rfl
        go_wp2_with fail
        generalize w9 = VX at *
        have hj4 : j % 4 < 4 := Nat.mod_lt _ (by decide)
        rw [show ((j : Int) % 4) = ((j % 4 : Nat) : Int) from rfl]
        refine (prow PX.out.f.s n1 n2 hj4 (PX.out.f.cr hj4) (fun i => by have := HF'.out (j % 4) i; omega) (PX.out.f.r _ hj4)).mono ?_
        rintro e w12 ⟨g, rfl, hg, hgl, b12⟩
        have P12 := Lib.hid (PX.out.below b12)
        have A12 := Lib.hid (AX.out.below b12)
        have hfz := PX.out.f.sz
        have hpz := PX.out.z.lt
        have hdz := PX.out.d
        have HRZ := Lib.hid (show ∀ i, i < 4 → _ < VX.heap.size from fun i hi => (PX.out.rr i hi).lt)
        have hwz := PX.out.w.size
        have haz := AX.out.lt
        have RW := Lib.hid (show ∃ G : Nat → Int, Row w12 g n 3 (fun i => .int .i64 (G i)) from ⟨_, hg⟩)
        clear b12 hg PX AX
        go_wp2_with fail
        go_loopw [22] (fun kk wt => ∃ mm : Nat, mm ≤ n ∧ kk = .int .i64 mm ∧ (∃ G : Nat → Int, Row wt g n 3 (fun i => .int .i64 (G i))) ∧ But g w12 wt) (fun kk _ => n - (intOf kk).toNat)
        case atStart => exact ⟨0, by omega, rfl, RW.out, But.refl _ _⟩
        case round =>
          clear RW
          obtain ⟨mm, hmm, rfl, ⟨G, hG⟩, hbt⟩ := hrel
          have RT := Lib.hid hG
          have BT := Lib.hid hbt
          clear hG hbt
          by_cases hmn : mm < n
          · have hc := RT.out.cell mm hmn
            have hfr := RT.out.fr mm
            have hgl2 := RT.out.lt
            go_wp2_with fail
            go_roundw
            case rel => exact ⟨mm + 1, by omega, by go_num, setI64 RT.out mm _, BT.out.setCell _⟩
            case measure => simp [intOf] <;> omega
          · obtain rfl : mm = n := by omega
            have PT := Lib.hid (P12.out.far BT.out (by omega) (.inr (by omega)) (by omega) (fun i hi => by have := HRZ.out i hi; omega))
            have AT := Lib.hid (A12.out.but BT.out (by omega))
            clear P12 A12 RT BT
            obtain ⟨⟨t0, t1, t2, t3⟩, ⟨t4, t5, t6, t7⟩⟩ := PT.out.z.all
            have t8 := AT.out.c1
            have HEQ := Lib.hid (equal_any (rc := rc) hsd PT.out.f PT.out.rr n1 n2 HF'.out k hkm)
            unfold skv sk at HEQ
            go_wp2_with fail
            refine HEQ.out.mono ?_
            rintro e w13 ⟨rfl, b13⟩
            have P13 := Lib.hid (PT.out.below b13)
            clear b13 PT AT t0 t1 t2 t3 t4 t5 t6 t7 t8
            go_wp2_with fail
            go_roundw
            case rel => exact ⟨j + 1, _, _, _, _, _, _, _, _, _, by omega, rfl, by go_num, P13.out, HT'.out, HF'.out⟩
            case measure => simp [intOf] <;> omega
    · obtain rfl : j = len := by omega
      go_wp2_with fail
      refine (HK.out _ P.out.w).mono ?_
      rintro e w18 ⟨rfl, b18⟩
      go_wp2_with fail
      go_ret
      exact ⟨rfl, tr P.out.w b18⟩
set_option maxRecDepth 100000 in
set_option maxHeartbeats 2000000 in
theorem lplays_a {W : World} {b m sd : Int} (hin : In b m) (ha : als b m = false) {a : Option Addr} {len cap : Nat} (hk : Kns W) :
    Calls Try.prog 10 #[.int .i64 b, .int .u64 sd, .int .i64 m, .slice a len cap] W fun e w' => e = .returned (.bool true) ∧ Below W.heap.size W w' := by
  have HK := Lib.hid hk
  have HR := Lib.hid (fun w => snew_bad (W := w) (sd := sd) hin ha)
  clear hk ha hin
  unfold sk0 at HR
  go_enter Try.func10, Try.ntmps10
  go_wp2_with fail
  refine (HR.out _).mono ?_
  rintro e w1 ⟨rfl, b1⟩
  have B1 := Lib.hid b1
  clear b1
  go_wp2_with fail
  refine (HK.out _ (by first | exact B1.out | exact tr B1.out (by go_grown))).mono ?_
  rintro e w3 ⟨rfl, b3⟩
  go_wp2_with fail
  go_ret
  exact ⟨rfl, by first | exact tr B1.out b3 | exact tr (tr B1.out (by go_grown)) b3⟩
set_option maxRecDepth 100000 in
set_option maxHeartbeats 2000000 in
theorem lplays_c {W : World} {b m sd : Int} {n : Nat} (hin : In b m) (ha : als b m = true) (hbn : b = n) {a : Option Addr} {len cap : Nat} {f0 : Nat → Int} {f1 : Nat → ByteArray} (hacts : Acts W a len f0 f1) (hbig : ¬ (b ≤ 64 ∧ m ≤ 100 ∧ fewB len 60 f1 = true)) (hk : Kns W) :
    Calls Try.prog 10 #[.int .i64 b, .int .u64 sd, .int .i64 m, .slice a len cap] W fun e w' => e = .returned (.bool true) ∧ Below W.heap.size W w' := by
  have HK := Lib.hid hk
  have HR := Lib.hid (fun w => rnew (W := w) (sd := sd) hin ha hbn)
  have HFEW := Lib.hid (fun (w : World) (hb : Below W.heap.size W w) => few_any (cap := cap) (hacts.below hb))
  clear hk ha hin hacts
  subst hbn
  unfold skv sk at HR
  go_enter Try.func10, Try.ntmps10
  go_wp2_with fail
  refine (HR.out _).mono ?_
  rintro e w1 ⟨r, rc, rfl, hr1, hg1, b1⟩
  have C2 := Lib.hid (tr b1 (by go_grown : Below w1.heap.size w1 (w1.alloc (hO n m 0 sd r rc))))
  unfold hO at C2
  clear hr1 hg1 b1
  by_cases x1 : 64 < (n : Int)
  · clear hbig
    go_wp2_with fail
    refine (HK.out _ C2.out).mono ?_
    rintro e w3 ⟨rfl, b3⟩
    go_wp2_with fail
    go_ret
    exact ⟨rfl, tr C2.out b3⟩
  · by_cases x2 : 100 < m
    · clear hbig
      go_wp2_with fail
      refine (HK.out _ C2.out).mono ?_
      rintro e w3 ⟨rfl, b3⟩
      go_wp2_with fail
      go_ret
      exact ⟨rfl, tr C2.out b3⟩
    · have hf : fewB len 60 f1 = false := by
        cases hh : fewB len 60 f1
        · rfl
        · exact absurd ⟨by omega, by omega, hh⟩ hbig
      rw [hf] at HFEW
      clear hbig hf
      go_wp2_with fail
      refine (HFEW.out _ C2.out).mono ?_
      rintro e w2 ⟨rfl, b2⟩
      have C3 := Lib.hid (tr C2.out b2)
      clear b2
      go_wp2_with fail
      refine (HK.out _ C3.out).mono ?_
      rintro e w3 ⟨rfl, b3⟩
      go_wp2_with fail
      go_ret
      exact ⟨rfl, tr C3.out b3⟩
theorem lplays_any {W : World} {b m sd : Int} (hin : In b m) (hsd : Word sd) {a : Option Addr} {len cap : Nat} {f0 : Nat → Int} {f1 : Nat → ByteArray} (hacts : Acts W a len f0 f1) (hk : Kns W) :
    Calls Try.prog 10 #[.int .i64 b, .int .u64 sd, .int .i64 m, .slice a len cap] W fun e w' => e = .returned (.bool true) ∧ Below W.heap.size W w' := by
  cases ha : als b m
  · exact lplays_a hin ha hk
  · obtain ⟨n, hbn, n1, n2⟩ := als_n ha
    have hm0 : 0 ≤ m := by
      unfold als at ha
      simp only [Bool.and_eq_true, decide_eq_true_eq] at ha
      exact ha.1.2
    by_cases hbig : b ≤ 64 ∧ m ≤ 100 ∧ fewB len 60 f1 = true
    · exact lplays_ok hin ha hbn n1 n2 hsd hacts hbig.1 hm0 hbig.2.1 hbig.2.2 hk
    · exact lplays_c hin ha hbn hacts hbig hk
end Go.Proofs.Ytohldfhelppehaa.Skt
