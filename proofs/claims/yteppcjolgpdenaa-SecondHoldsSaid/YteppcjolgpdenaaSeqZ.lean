/-
  Second chance (layer 31): the law without a reference.
-/
import Derived.Test.YteppcjolgpdenaaSeqY
set_option linter.unusedVariables false
set_option linter.unusedSimpArgs false
namespace Go.Proofs.Yteppcjolgpdenaa.Seq
open Go Go.RowKit Kit Go.Maps
theorem grown_keep {w v : World} {row : Option Nat} {r : Nat} (h : w.grownBy v row) (hr : row = none ∨ row = some r) : Keep r (r + 1) w v := by
  obtain ⟨e1, e2, e3, e4, e5⟩ := h
  refine ⟨by first | exact e1 | exact e1.symm, by first | exact e2 | exact e2.symm, by first | exact e3 | exact e3.symm, e4, fun k hk hne => e5 k hk ?_⟩
  rcases hr with rfl | rfl
  · simp
  · simp; omega
theorem inv_key {key : Value} {kl : Lit} (h : keyOf Try.prog 40 key = some kl) : ∃ x, key = .int .u32 x := by
  obtain ⟨x, rfl, -, -⟩ := Maps.keyOf_int_inv und_u32 h
  exact ⟨x, rfl⟩
theorem left_sub {D : DataW Unit} {left : Lit → Bool} {k : Lit} (h : ∀ z, left z = true → has D z = true) : ∀ z, (left z && !z.sameKey k) = true → has D z = true := fun z hz => h z (by simp at hz; exact hz.1)
theorem mt_start (n : Nat) : Mt (.map []) (mem (blanks n)) (full (blanks n)) := by
  have h : ∀ k, mem (blanks n) k = false := fun k => mem_none (by
    unfold find
    rw [List.findIdx?_eq_none_iff]
    intro p hp
    rw [List.eq_of_mem_replicate hp]
    rfl)
  exact ⟨fun k => by rw [h]; rfl, fun k hk => (by rw [h] at hk; cases hk), by rw [blanks_full]; rfl⟩
theorem Hs.lenM {W w : World} {n i c lo hi d lo2 hi2 m : Nat} {l : List Pl} {h : Nat} {ld : List Pl} {hd : Nat} {D : DataW Unit} {S : Int → Bool} {L : Nat} (H : Hs W w n i c lo hi d lo2 hi2 m l h ld hd D S L) : (Builtin.len_ #[42] 3 #[.map (some m)]).run Try.prog w = .ok (.int .i64 (L : Int)) w := by
  rw [H.o.len und_mapb, H.mt.size]
theorem plain_true : plainElem (H := Unit) Try.prog 4 (.bool true) = some (.lit (.bool true), []) := plainElem_bool und_bool true
theorem Sc.has' {W : World} {c lo hi : Nat} {l : List Pl} {h : Nat} (H : Sc W c lo hi l h) (k : Int) (hk : (Lit.int .u32 k).wf = true) (hm : mem l k = true) :
    Calls Try.prog 15 #[.pointer (some ⟨c, 0, none⟩), .int .u32 k] W fun e w' => e = .returned (.bool true) ∧ W = w' := by
  have := H.has k hk
  rw [show (find l k).isSome = true from hm] at this
  exact this
/-- the range over the map: the row of the iterator is r -/
structure Rg (W w0 w : World) (n i c lo hi d lo2 hi2 m r N : Nat) (l : List Pl) (h : Nat) (ld : List Pl) (hd : Nat) (D : DataW Unit) (left : Lit → Bool) (cn : Nat) : Prop where
  rg : w.ranges Try.prog 40 (plainElem Try.prog 4) m r N D left cn
  sub : ∀ z, left z = true → has D z = true
  hs : Hs W w n i c lo hi d lo2 hi2 m l h ld hd D (mem l) (full l)
  k : Keep r (r + 1) w0 w
set_option maxHeartbeats 4000000 in
set_option maxRecDepth 100000 in
theorem lholds_ok {W : World} {n : Nat} {a : Option Addr} {len cap : Nat} {f0 f1 : Nat → Int} (hacts : Acts W.heap.size W a len f0 f1) (hk : Kn W) (c1 : 1 ≤ n) (c2 : n ≤ 40) (c3 : len ≤ 100) :
    Calls Try.prog 5 #[.int .i64 (n : Int), .slice a len cap] W fun e w' => e = .returned (.bool true) ∧ Below W.heap.size W w' := by
  have HK := Lib.hid hk
  have HA := Lib.hid hacts
  have c3' : ¬ 100 < (len : Int) := by omega
  have hmm := fun w => run_makeMap (P := Try.prog) 42 w
  have K := Maps.int_keyed (P := Try.prog) und_u32
  have q1 : (1 : Int) ≤ (n : Int) := by omega
  have q2 : (n : Int) ≤ 40 := by omega
  clear hk hacts
  go_enter Try.func5, Try.ntmps5
  go_wp2_with fail
  refine (snew_any q1 (by omega)).mono ?_
  rintro e w1 ⟨c, hi, rfl, s1, b1⟩
  have S1 := Lib.hid s1
  have B1 := Lib.hid b1
  have ht := s1.top
  clear s1 b1
  go_wp2_with fail
  refine (snew_any q1 (by omega)).mono ?_
  rintro e w2 ⟨d, hi2, rfl, s2, b2⟩
  have b3 : Below w2.heap.size w2 (w2.alloc (.map #[] 0)) := by go_grown
  have ho := (World.ownsMap_made w2 Try.prog 40 (plainElem (H := Unit) Try.prog 4))
  have ht2 := s2.top
  have hs2 := b2.size
  have P0 := Lib.hid (show Hs W (w2.alloc (.map #[] 0)) n 0 c W.heap.size hi d w1.heap.size hi2 w2.heap.size (blanks n) 0 (blanks n) 0 (.map []) (mem (blanks n)) (full (blanks n)) from
    ⟨(S1.out.below b2).below b3, s2.below b3, ho, mt_start n, by rw [blanks_full]; omega, ⟨blanks_len n, fun _ => ⟨rfl, fun j _ hj => by unfold blanks; rw [List.getElem?_replicate, if_pos hj]⟩, fun h => by omega, fun t ht => by omega⟩, blanks_len n, tr (tr B1.out b2) b3, Nat.le_refl _, ht, ht2, by simp, S1.out.lohi, s2.lohi⟩)
  clear s2 b2 b3 S1 B1 ho ht ht2 hs2
  generalize W.heap.size = lo at P0
  generalize w1.heap.size = lo2 at P0
  go_wp2_with fail
  generalize w2.heap.size = m at *
  go_loopw [10] (fun v wr => ∃ (i : Nat) (l : List Pl) (h : Nat) (ld : List Pl) (hd : Nat) (D : DataW Unit), i ≤ len ∧ v = .int .i64 i ∧ Hs W wr n i c lo hi d lo2 hi2 m l h ld hd D (mem l) (full l)) (fun v _ => len - (intOf v).toNat)
  case atStart => exact ⟨0, _, _, _, _, _, by omega, rfl, P0.out⟩
  case round =>
    clear P0
    obtain ⟨i, l, h, ld, hd, D, hj, rfl, hP⟩ := hrel
    have P := Lib.hid hP
    clear hP
    by_cases hlt : i < len
    · obtain ⟨x, rfl, hxb, y0, y1, k0, k1⟩ := HA.out.below P.out.b (Nat.le_refl _) i hlt
      generalize f1 i = k at *
      generalize f0 i = what at *
      have hwf := wf32 k0 k1
      have A := Lib.hid (show Bk (wr.alloc (.cells #[.int .i64 what, .int .u32 k] 44)) wr.heap.size what k from (MapKept.heap_alloc wr _).1)
      have hb6 : Below wr.heap.size wr (wr.alloc (.cells #[.int .i64 what, .int .u32 k] 44)) := by go_grown
      have P6 := Lib.hid (P.out.below hb6)
      have hmw := P.out.d4
      have hd2 := P.out.d2
      have hd3 := P.out.d3
      have hd5 := P.out.d5
      have hd6 := P.out.d6
      have hWs := P.out.b.size
      have hxw : x.block < wr.heap.size := Nat.lt_of_lt_of_le hxb hWs
      have hln := P.out.ln
      clear hb6
      by_cases c0 : what = 0
      · subst c0
        go_wp2_with fail
        refine (ring_any P6.out.s).mono ?_
        rintro e w7 ⟨v1, v2, rfl, k7, m7, b7⟩
        have P7 := Lib.hid (P6.out.below b7)
        have A7 := Lib.hid (A.out.below b7)
        have hs7 := b7.size
        simp only [World.size_alloc] at hs7
        have hkl := keys_len l
        have hml := marks_len l
        have HKF := Lib.hid (keys_full l)
        obtain ⟨o1, p1, rfl, g1⟩ := own_rk k7
        obtain ⟨o2, p2, rfl, g2⟩ := own_rk m7
        simp only [World.size_alloc] at g1 g2
        have RK := Lib.hid g1
        have RM := Lib.hid g2
        clear g1 g2 b7 k7 m7 A P6 y0 y1
        obtain ⟨n1, hn1⟩ : ∃ n1, (keysOf l).length = n1 := ⟨_, rfl⟩
        obtain ⟨n2, hn2⟩ : ∃ n2, (marksOf l).length = n2 := ⟨_, rfl⟩
        have HN1 := Lib.hid hn1
        have HN2 := Lib.hid hn2
        rw [hn1] at hkl ⊢
        rw [hn2] at hml ⊢
        clear hn1 hn2
        go_wp2_with fail
        go_loopw [14, 15] (fun u v wt => ∃ j : Nat, j ≤ n2 ∧ u = .int .i64 (cnt (marksOf l) j : Int) ∧ v = .int .i64 j ∧ w7 = wt) (fun _ v _ => n2 - (intOf v).toNat)
        case atStart => exact ⟨0, by omega, rfl, rfl, rfl⟩
        case round =>
          obtain ⟨j, hj2, rfl, rfl, rfl⟩ := hrel
          have hcl := cnt_le (marksOf l) j
          by_cases hjl : j < n2
          · obtain ⟨g, rfl, hg1, hg2, hg3⟩ := RM.out j (by rw [HN2.out]; exact hjl)
            have hcs := cnt_succ (l := marksOf l) (j := j) (by rw [HN2.out]; exact hjl)
            generalize (marksOf l)[j]'(by rw [HN2.out]; exact hjl) = z at hg3 hcs
            have HCS := Lib.hid hcs
            clear hcs
            cases z with
            | true =>
              go_wp2_with fail
              go_roundw
              case rel => exact ⟨j + 1, by omega, by rw [HCS.out]; go_num, by go_num, trivial⟩
              case measure => simp [intOf]; omega
            | false =>
              go_wp2_with fail
              go_roundw
              case rel => exact ⟨j + 1, by omega, by rw [HCS.out]; rfl, by go_num, trivial⟩
              case measure => simp [intOf]; omega
          · obtain rfl : j = n2 := by omega
            clear hjl hj2
            obtain ⟨a0, a1, a2⟩ := A7.out.c
            have HF := Lib.hid (use_facts P.out.s.uq P.out.s.hh k)
            go_wp2_with fail
            refine (use_any P7.out.s k0 k1).mono ?_
            rintro e w8 ⟨rfl, s8, kp8⟩
            obtain ⟨U, hU⟩ : ∃ U, useL l h k = U := ⟨_, rfl⟩
            obtain ⟨l', h', hit, left, out⟩ := U
            rw [hU] at s8 HF ⊢
            simp only at s8 HF ⊢
            have hlen' := HF.out.len_
            have HR' := Lib.hid (show ∀ p ∈ l', 0 ≤ p.k ∧ p.k < 4294967296 from s8.rng)
            have P8 := Lib.hid (P7.out.obj s8 kp8 (by rw [hlen', hln]))
            have A8 := Lib.hid (A7.out.keep kp8 (.inr (by omega)))
            have RK8 := Lib.hid (RK.out.keep kp8 (by omega))
            have RM8 := Lib.hid (RM.out.keep kp8 (by omega))
            have hs8 := kp8.size
            have hfl := full_le l
            have hlR := P.out.s.rng
            clear s8 kp8 P7 A7 RK RM hU a0 a1 a2
            have hT9 := (MapKept.heap_alloc w8 (.cells #[.bool hit, .bool left, .int .u32 out] 46)).1
            have b9 : Below w8.heap.size w8 (w8.alloc (.cells #[.bool hit, .bool left, .int .u32 out] 46)) := by go_grown
            have P9 := Lib.hid (P8.out.below b9)
            have A9 := Lib.hid (A8.out.below b9)
            have RK9 := Lib.hid (RK8.out.below b9)
            have RM9 := Lib.hid (RM8.out.below b9)
            have T9 := Lib.hid (show BoxA (w8.alloc (.cells #[.bool hit, .bool left, .int .u32 out] 46)) w8.heap.size 46 #[.bool hit, .bool left, .int .u32 out] from hT9)
            clear P8 A8 RK8 RM8 hT9 b9
            have hout : (Lit.int .u32 out).wf = true := by
              cases hleft : left with
              | false => rw [HF.out.out_ hleft]; decide
              | true =>
                obtain ⟨i', hi'⟩ := mem_iff.1 (HF.out.left_ hleft).2.1
                obtain ⟨p, hp, -, rfl⟩ := hi'
                obtain ⟨z0, z1⟩ := hlR p (List.mem_of_getElem? hp)
                exact wf32 z0 z1
            clear hlR
            have lk1 := look_there P9.out.o P9.out.mt k hwf
            have lk2 := look_there P9.out.o P9.out.mt out hout
            cases left with
            | false =>
              have ho := HF.out.out_ rfl
              subst ho
              have hh := HF.out.hit_
              obtain ⟨b, hb⟩ : ∃ b, mem l k = b := ⟨_, rfl⟩
              rw [hb] at lk1 hh
              subst hh
              have HB := Lib.hid hb
              clear hb
              obtain ⟨a0, a1, a2⟩ := A9.out.c
              obtain ⟨t0, t1, t2, t3⟩ := BoxA.three T9.out
              have hbb : (hit != hit) = false := by cases hit <;> rfl
              go_wp2_with fail
              generalize (w8.alloc (.cells #[.bool hit, .bool false, .int .u32 0] 46)) = w9 at *
              clear lk1 lk2 a0 a1 a2 t0 t1 t2 t3
              as_aux_lemma =>
                go_loopw [18] (fun v wt => ∃ j : Nat, j ≤ n1 ∧ v = .int .i64 j ∧ Below w9.heap.size w9 wt) (fun v _ => n1 - (intOf v).toNat)
                case atStart => exact ⟨0, by omega, rfl, Below.refl _ _⟩
                case round =>
                  obtain ⟨jk, hjk, rfl, bt⟩ := hrel
                  have BT := Lib.hid bt
                  clear bt
                  obtain ⟨t0, t1, t2, t3⟩ := BoxA.three (show BoxA wr _ _ _ from (BT.out.block _ (BoxA.lt T9.out)).trans T9.out)
                  by_cases hjl : jk < n1
                  · have hjl' : (jk : Int) < (n1 : Int) := by omega
                    have hj0 : (0 : Int) ≤ (jk : Int) := by omega
                    go_wp2_with fail
                    go_quiet (fail)
                    all_goals
                      go_wp2_with fail
                      go_roundw
                      case rel => exact ⟨jk + 1, by omega, by go_num, below_drewN BT.out _⟩
                      case measure => simp [intOf]; omega
                  · obtain rfl : jk = n1 := by omega
                    clear hjl hjk
                    have PV := Lib.hid (P9.out.below BT.out)
                    have HKE := Lib.hid (Maps.keyOf_int_mk (P := Try.prog) und_u32 hwf)
                    obtain ⟨a0, a1, a2⟩ := (A9.out.below BT.out).c
                    go_wp2_with (first
                      | (at_mapUpdate; refine wpList_mapUpdate_in _ rfl _ _ _ 42 rfl 40 4 K und_mapb (plainElem Try.prog 4) m _ _ rfl PV.out.o (by rw [PV.out.mt.size]; have := PV.out.sm; unfold maxLen; omega) _ _ (.int .u32 k) rfl rfl HKE.out _ [] plain_true ?_; intro w6 ho6 ht6; have PT := Lib.hid ((PV.out.turn ho6 ht6 (PV.out.mt.put (PV.out.o.tidy K) k) (by have := PV.out.sm; have := full_le l; have := P.out.ln; split <;> omega)).set_ (S' := mem l') (L' := full l') (fun j => by rw [HF.out.mem_]; simp) (by rw [HF.out.full_]; split <;> simp)); have hlm := PT.out.lenM)
                      | fail)
                    clear a0 a1 a2 t0 t1 t2 t3
                    as_aux_lemma =>
                      have hfn : ¬ (n : Int) < (full l' : Int) := by have := full_le l'; have := PT.out.ln; omega
                      have hfd : decide (n < full l') = false := by rw [decide_eq_false_iff_not]; omega
                      have HLN := Lib.hid PT.out.s.lenR
                      go_wp2_with fail
                      refine HLN.out.mono ?_
                      rintro e wl1 ⟨rfl, rfl⟩
                      go_wp2_with fail
                      refine HLN.out.mono ?_
                      rintro e wl2 ⟨rfl, rfl⟩
                      go_wp2_with (first
                        | (at_range; refine wpList_range_own _ rfl _ 42 rfl 40 4 K und_mapb (plainElem Try.prog 4) m _ _ rfl PT.out.o ?_; intro w0 hrg0 hg0 hs0)
                        | fail)
                      go_frame
                      go_loopw [21] (fun _ wt => ∃ (left : Lit → Bool) (cn : Nat), Rg W w6 wt n i c lo hi d lo2 hi2 m w6.heap.size (Maps.size _) l' h' ld hd _ left cn) (fun _ wt => wt.rangeLeft m w6.heap.size)
                      case atStart => exact ⟨_, _, hrg0, fun z hz => hz, PT.out.far (grown_keep hg0 (.inl rfl)) PT.out.d4, grown_keep hg0 (.inl rfl)⟩
                      case round =>
                        obtain ⟨left, cn, hR⟩ := hrel
                        have RG := Lib.hid hR
                        clear hR hrg0 hg0 hs0
                        go_wp2_with (first
                          | (at_next; refine wpList_next_ranges _ rfl _ rfl 40 K (plainElem Try.prog 4) (Value.int .u32) (fun v : Value => v) (fun key kl => inv_key) (fun v y _ => ⟨v, rfl⟩) m w6.heap.size _ _ _ _ rfl RG.out.rg ?_ ?_)
                          | fail)
                        · intro hc0 hl0
                          obtain ⟨ld', hd', hu, hdn⟩ := RG.out.hs.dn.step c1
                          have x1 := IntWalk.i64_in (1000 + (i : Int)) (by omega)
                          have x2 : IntKind.u32.wrap (1000 + (i : Int)) = 1000 + (i : Int) := by simp [IntKind.wrap, IntKind.signed, IntKind.bits]; omega
                          have x3 := IntWalk.i64_in (1000 + (i : Int) - (n : Int)) (by omega)
                          have hUS := use_any RG.out.hs.t (k := 1000 + (i : Int)) (by omega) (by omega)
                          rw [hu] at hUS
                          by_cases hge : n ≤ i
                          · have x4 : IntKind.u32.wrap (1000 + (i : Int) - (n : Int)) = 1000 + ((i - n : Nat) : Int) := by simp [IntKind.wrap, IntKind.signed, IntKind.bits]; omega
                            have x5 : (n : Int) ≤ (i : Int) := by omega
                            simp only [hge, decide_true, if_true] at hUS
                            have HUS := Lib.hid hUS
                            have HDN := Lib.hid hdn
                            clear hUS hdn hu
                            go_wp2_with fail
                            refine HUS.out.mono ?_
                            rintro e w11 ⟨rfl, s11, k11⟩
                            have P11 := Lib.hid (RG.out.hs.obj2 s11 k11 HDN.out)
                            clear s11 k11
                            go_wp2_with fail
                            go_roundw
                            case rel => exact ⟨i + 1, _, _, _, _, _, by omega, by go_num, P11.out.below (by go_grown)⟩
                            case measure => simp [intOf]; omega
                          · have x5 : ¬ (n : Int) ≤ (i : Int) := by omega
                            have x6 : decide (n ≤ i) = false := by simpa using hge
                            simp only [x6, hge, if_false] at hUS
                            have HUS := Lib.hid hUS
                            have HDN := Lib.hid hdn
                            clear hUS hdn hu
                            go_wp2_with fail
                            refine HUS.out.mono ?_
                            rintro e w11 ⟨rfl, s11, k11⟩
                            have P11 := Lib.hid (RG.out.hs.obj2 s11 k11 HDN.out)
                            clear s11 k11
                            go_wp2_with fail
                            go_roundw
                            case rel => exact ⟨i + 1, _, _, _, _, _, by omega, by go_num, P11.out.below (by go_grown)⟩
                            case measure => simp [intOf]; omega
                        · intro xk xv kl yv yw wn cnt1 hkey hlk hv hat hrg1 hlt1 hg1 hs1 hen
                          obtain ⟨xk', ex, rfl, hwx⟩ := Maps.keyOf_int_inv und_u32 hkey
                          cases ex
                          have hmx : mem l' xk = true := by rw [← PT.out.mt.has_]; exact RG.out.sub _ hlk
                          have k1 := grown_keep hg1 (.inr rfl)
                          have PN := Lib.hid (RG.out.hs.far k1 PT.out.d4)
                          have HH := Lib.hid (PN.out.s.has' xk hwx hmx)
                          have KN := Lib.hid (RG.out.k.trans k1)
                          have SN := Lib.hid (left_sub (k := .int .u32 xk) RG.out.sub)
                          have HRG1 := Lib.hid hrg1
                          clear k1 hmx hkey hlk hv hat hrg1 hg1
                          go_wp2_with fail
                          refine HH.out.mono ?_
                          rintro e wl3 ⟨rfl, rfl⟩
                          go_wp2_with fail
                          go_roundw
                          case rel => exact ⟨_, cnt1, HRG1.out, SN.out, PN.out, KN.out⟩
                          case measure => rw [HRG1.out.left_eq, RG.out.rg.left_eq]; omega
            | true =>
              obtain ⟨hmk, hmo, hFL⟩ := HF.out.left_ rfl
              have hh := HF.out.hit_
              rw [hmk] at lk1 hh
              rw [hmo] at lk2
              subst hh
              have hn1n : n1 = n := by rw [← HN1.out, HKF.out, hFL, hln]
              have hne : ((n1 : Int) != (n : Int)) = false := by rw [hn1n]; simp
              have HMK := Lib.hid hmk
              have HMO := Lib.hid hmo
              have HFL := Lib.hid (show 1 ≤ full l from by omega)
              have hml2 : n1 ≤ j := by
                rw [← HN2.out, (full_lists hFL).2, List.length_map]; omega
              have HNN := Lib.hid hn1n
              clear hmk hmo hFL hn1n
              obtain ⟨a0, a1, a2⟩ := A9.out.c
              obtain ⟨t0, t1, t2, t3⟩ := BoxA.three T9.out
              go_wp2_with fail
              generalize (w8.alloc (.cells #[.bool false, .bool true, .int .u32 out] 46)) = w9 at *
              clear lk1 lk2 a0 a1 a2 t0 t1 t2 t3 hne
              as_aux_lemma =>
                go_loopw [18] (fun v wt => ∃ j : Nat, j ≤ n1 ∧ v = .int .i64 j ∧ Below w9.heap.size w9 wt) (fun v _ => n1 - (intOf v).toNat)
                case atStart => exact ⟨0, by omega, rfl, Below.refl _ _⟩
                case round =>
                  obtain ⟨jk, hjk, rfl, bt⟩ := hrel
                  have BT := Lib.hid bt
                  clear bt
                  obtain ⟨t0, t1, t2, t3⟩ := BoxA.three (show BoxA wr _ _ _ from (BT.out.block _ (BoxA.lt T9.out)).trans T9.out)
                  by_cases hjl : jk < n1
                  · have hjl' : (jk : Int) < (n1 : Int) := by omega
                    have hj0 : (0 : Int) ≤ (jk : Int) := by omega
                    obtain ⟨g, rfl, hg1, hg2, hg3⟩ := (RK9.out.below BT.out) jk (by rw [HN1.out]; exact hjl)
                    obtain ⟨g', rfl, hg1', hg2', hg3'⟩ := (RM9.out.below BT.out) jk (by rw [HN2.out]; omega)
                    have HLO : (keysOf l)[jk]'(by rw [HN1.out]; exact hjl) ≠ out ∨ (marksOf l)[jk]'(by rw [HN2.out]; omega) = false ∨ cnt (marksOf l) j = n := by
                      rcases left_ok HF.out (j := jk) (by rw [HN1.out]; exact hjl) (by rw [HN2.out]; omega) with q | q | q
                      · exact .inl q
                      · exact .inr (.inl q)
                      · exact .inr (.inr (by rw [HN2.out] at q; omega))
                    generalize (keysOf l)[jk]'(by rw [HN1.out]; exact hjl) = zk at *
                    generalize (marksOf l)[jk]'(by rw [HN2.out]; omega) = zm at *
                    rcases HLO with hne | hne | hne
                    · have e1 : (zk == out) = false := by rw [beq_eq_false_iff_ne]; exact hne
                      clear hne
                      go_wp2_with fail
                      go_quiet (fail)
                      all_goals
                        go_wp2_with fail
                        go_roundw
                        case rel => exact ⟨jk + 1, by omega, by go_num, below_drewN BT.out _⟩
                        case measure => simp [intOf]; omega
                    · subst hne
                      by_cases hz : zk = out
                      · subst hz
                        go_wp2_with fail
                        go_quiet (fail)
                        all_goals
                          go_wp2_with fail
                          go_roundw
                          case rel => exact ⟨jk + 1, by omega, by go_num, below_drewN BT.out _⟩
                          case measure => simp [intOf]; omega
                      · have e1 : (zk == out) = false := by rw [beq_eq_false_iff_ne]; exact hz
                        clear hz
                        go_wp2_with fail
                        go_quiet (fail)
                        all_goals
                          go_wp2_with fail
                          go_roundw
                          case rel => exact ⟨jk + 1, by omega, by go_num, below_drewN BT.out _⟩
                          case measure => simp [intOf]; omega
                    · have hcc : ¬ ((cnt (marksOf l) j : Int) < (n : Int)) := by omega
                      clear hne
                      by_cases hz : zk = out
                      · subst hz
                        cases zm with
                        | true =>
                          go_wp2_with fail
                          go_quiet (fail)
                          all_goals
                            go_wp2_with fail
                            go_roundw
                            case rel => exact ⟨jk + 1, by omega, by go_num, below_drewN BT.out _⟩
                            case measure => simp [intOf]; omega
                        | false =>
                          go_wp2_with fail
                          go_quiet (fail)
                          all_goals
                            go_wp2_with fail
                            go_roundw
                            case rel => exact ⟨jk + 1, by omega, by go_num, below_drewN BT.out _⟩
                            case measure => simp [intOf]; omega
                      · have e1 : (zk == out) = false := by rw [beq_eq_false_iff_ne]; exact hz
                        clear hz
                        go_wp2_with fail
                        go_quiet (fail)
                        all_goals
                          go_wp2_with fail
                          go_roundw
                          case rel => exact ⟨jk + 1, by omega, by go_num, below_drewN BT.out _⟩
                          case measure => simp [intOf]; omega
                  · obtain rfl : jk = n1 := by omega
                    clear hjl hjk
                    have PV := Lib.hid (P9.out.below BT.out)
                    have AV := Lib.hid (A9.out.below BT.out)
                    have HKE := Lib.hid (Maps.keyOf_int_mk (P := Try.prog) und_u32 hwf)
                    have HKO := Lib.hid (Maps.keyOf_int_mk (P := Try.prog) und_u32 hout)
                    obtain ⟨a0, a1, a2⟩ := AV.out.c
                    go_wp2_with (first
                      | (at_delete; refine wpList_delete_own _ rfl _ _ 42 40 rfl 4 K und_mapb (plainElem Try.prog 4) m _ _ rfl PV.out.o _ (.int .u32 out) rfl HKO.out ?_; intro w5 ho5 ht5; have PD := Lib.hid (PV.out.turn ho5 ht5 (PV.out.mt.del (PV.out.o.tidy K) out) (by have := PV.out.sm; omega)); obtain ⟨a0', a1', a2'⟩ := (AV.out.keep (turned_keep ht5) (.inr (by omega))).c)
                      | (at_mapUpdate; refine wpList_mapUpdate_in _ rfl _ _ _ 42 rfl 40 4 K und_mapb (plainElem Try.prog 4) m _ _ rfl PD.out.o (by rw [PD.out.mt.size]; have := PD.out.sm; unfold maxLen; omega) _ _ (.int .u32 k) rfl rfl HKE.out _ [] plain_true ?_; intro w6 ho6 ht6; have PT := Lib.hid ((PD.out.turn ho6 ht6 (PD.out.mt.put (PD.out.o.tidy K) k) (by have := PD.out.sm; have := full_le l; have := P.out.ln; split <;> omega)).set_ (S' := mem l') (L' := full l') (fun j => by rw [HF.out.mem_]; simp) (by rw [HF.out.full_, HMK.out, HMO.out]; have := HFL.out; simp; omega)); have hlm := PT.out.lenM)
                      | fail)
                    clear a0 a1 a2 t0 t1 t2 t3
                    as_aux_lemma =>
                      have hfn : ¬ (n : Int) < (full l' : Int) := by have := full_le l'; have := PT.out.ln; omega
                      have hfd : decide (n < full l') = false := by rw [decide_eq_false_iff_not]; omega
                      have HLN := Lib.hid PT.out.s.lenR
                      go_wp2_with fail
                      refine HLN.out.mono ?_
                      rintro e wl1 ⟨rfl, rfl⟩
                      go_wp2_with fail
                      refine HLN.out.mono ?_
                      rintro e wl2 ⟨rfl, rfl⟩
                      go_wp2_with (first
                        | (at_range; refine wpList_range_own _ rfl _ 42 rfl 40 4 K und_mapb (plainElem Try.prog 4) m _ _ rfl PT.out.o ?_; intro w0 hrg0 hg0 hs0)
                        | fail)
                      go_frame
                      go_loopw [21] (fun _ wt => ∃ (left : Lit → Bool) (cn : Nat), Rg W w6 wt n i c lo hi d lo2 hi2 m w6.heap.size (Maps.size _) l' h' ld hd _ left cn) (fun _ wt => wt.rangeLeft m w6.heap.size)
                      case atStart => exact ⟨_, _, hrg0, fun z hz => hz, PT.out.far (grown_keep hg0 (.inl rfl)) PT.out.d4, grown_keep hg0 (.inl rfl)⟩
                      case round =>
                        obtain ⟨left, cn, hR⟩ := hrel
                        have RG := Lib.hid hR
                        clear hR hrg0 hg0 hs0
                        go_wp2_with (first
                          | (at_next; refine wpList_next_ranges _ rfl _ rfl 40 K (plainElem Try.prog 4) (Value.int .u32) (fun v : Value => v) (fun key kl => inv_key) (fun v y _ => ⟨v, rfl⟩) m w6.heap.size _ _ _ _ rfl RG.out.rg ?_ ?_)
                          | fail)
                        · intro hc0 hl0
                          obtain ⟨ld', hd', hu, hdn⟩ := RG.out.hs.dn.step c1
                          have x1 := IntWalk.i64_in (1000 + (i : Int)) (by omega)
                          have x2 : IntKind.u32.wrap (1000 + (i : Int)) = 1000 + (i : Int) := by simp [IntKind.wrap, IntKind.signed, IntKind.bits]; omega
                          have x3 := IntWalk.i64_in (1000 + (i : Int) - (n : Int)) (by omega)
                          have hUS := use_any RG.out.hs.t (k := 1000 + (i : Int)) (by omega) (by omega)
                          rw [hu] at hUS
                          by_cases hge : n ≤ i
                          · have x4 : IntKind.u32.wrap (1000 + (i : Int) - (n : Int)) = 1000 + ((i - n : Nat) : Int) := by simp [IntKind.wrap, IntKind.signed, IntKind.bits]; omega
                            have x5 : (n : Int) ≤ (i : Int) := by omega
                            simp only [hge, decide_true, if_true] at hUS
                            have HUS := Lib.hid hUS
                            have HDN := Lib.hid hdn
                            clear hUS hdn hu
                            go_wp2_with fail
                            refine HUS.out.mono ?_
                            rintro e w11 ⟨rfl, s11, k11⟩
                            have P11 := Lib.hid (RG.out.hs.obj2 s11 k11 HDN.out)
                            clear s11 k11
                            go_wp2_with fail
                            go_roundw
                            case rel => exact ⟨i + 1, _, _, _, _, _, by omega, by go_num, P11.out.below (by go_grown)⟩
                            case measure => simp [intOf]; omega
                          · have x5 : ¬ (n : Int) ≤ (i : Int) := by omega
                            have x6 : decide (n ≤ i) = false := by simpa using hge
                            simp only [x6, hge, if_false] at hUS
                            have HUS := Lib.hid hUS
                            have HDN := Lib.hid hdn
                            clear hUS hdn hu
                            go_wp2_with fail
                            refine HUS.out.mono ?_
                            rintro e w11 ⟨rfl, s11, k11⟩
                            have P11 := Lib.hid (RG.out.hs.obj2 s11 k11 HDN.out)
                            clear s11 k11
                            go_wp2_with fail
                            go_roundw
                            case rel => exact ⟨i + 1, _, _, _, _, _, by omega, by go_num, P11.out.below (by go_grown)⟩
                            case measure => simp [intOf]; omega
                        · intro xk xv kl yv yw wn cnt1 hkey hlk hv hat hrg1 hlt1 hg1 hs1 hen
                          obtain ⟨xk', ex, rfl, hwx⟩ := Maps.keyOf_int_inv und_u32 hkey
                          cases ex
                          have hmx : mem l' xk = true := by rw [← PT.out.mt.has_]; exact RG.out.sub _ hlk
                          have k1 := grown_keep hg1 (.inr rfl)
                          have PN := Lib.hid (RG.out.hs.far k1 PT.out.d4)
                          have HH := Lib.hid (PN.out.s.has' xk hwx hmx)
                          have KN := Lib.hid (RG.out.k.trans k1)
                          have SN := Lib.hid (left_sub (k := .int .u32 xk) RG.out.sub)
                          have HRG1 := Lib.hid hrg1
                          clear k1 hmx hkey hlk hv hat hrg1 hg1
                          go_wp2_with fail
                          refine HH.out.mono ?_
                          rintro e wl3 ⟨rfl, rfl⟩
                          go_wp2_with fail
                          go_roundw
                          case rel => exact ⟨_, cnt1, HRG1.out, SN.out, PN.out, KN.out⟩
                          case measure => rw [HRG1.out.left_eq, RG.out.rg.left_eq]; omega
      by_cases c1' : what = 1
      · subst c1'
        go_wp2_with fail
        refine (drop_any P6.out.s k0 k1).mono ?_
        rintro e w7 ⟨rfl, s7, kp7⟩
        have HF := Lib.hid (drop_facts P.out.s.uq k)
        have hlen' := dropL_len l k
        generalize dropL l k = l' at *
        have P7 := Lib.hid (P6.out.obj s7 kp7 (by rw [hlen', hln]))
        have A7 := Lib.hid (A.out.keep kp7 (.inr (by omega)))
        have lk1 := look_there P7.out.o P7.out.mt k hwf
        obtain ⟨b, hb⟩ : ∃ b, mem l k = b := ⟨_, rfl⟩
        rw [hb] at lk1
        rw [show (find l k).isSome = b from hb]
        have hbb : (b != b) = false := by cases b <;> rfl
        have HKE := Lib.hid (Maps.keyOf_int_mk (P := Try.prog) und_u32 hwf)
        obtain ⟨a0, a1, a2⟩ := A7.out.c
        clear s7 kp7 A P6 y0 y1 hb
        go_wp2_with (first
          | (at_delete; refine wpList_delete_own _ rfl _ _ 42 40 rfl 4 K und_mapb (plainElem Try.prog 4) m _ _ rfl P7.out.o _ (.int .u32 k) rfl HKE.out ?_; intro w5 ho5 ht5; have PT := Lib.hid ((P7.out.turn ho5 ht5 (P7.out.mt.del (P7.out.o.tidy K) k) (by have := P7.out.sm; omega)).set_ (S' := mem l') (L' := full l') (fun j => by rw [HF.out.mem_]) (by have := HF.out.full_; omega)); have hlm := PT.out.lenM)
          | fail)
        clear lk1 a0 a1 a2
        as_aux_lemma =>
          have hfn : ¬ (n : Int) < (full l' : Int) := by have := full_le l'; have := PT.out.ln; omega
          have hfd : decide (n < full l') = false := by rw [decide_eq_false_iff_not]; omega
          have HLN := Lib.hid PT.out.s.lenR
          go_wp2_with fail
          refine HLN.out.mono ?_
          rintro e wl1 ⟨rfl, rfl⟩
          go_wp2_with fail
          refine HLN.out.mono ?_
          rintro e wl2 ⟨rfl, rfl⟩
          go_wp2_with (first
            | (at_range; refine wpList_range_own _ rfl _ 42 rfl 40 4 K und_mapb (plainElem Try.prog 4) m _ _ rfl PT.out.o ?_; intro w0 hrg0 hg0 hs0)
            | fail)
          go_frame
          go_loopw [21] (fun _ wt => ∃ (left : Lit → Bool) (cn : Nat), Rg W w5 wt n i c lo hi d lo2 hi2 m w5.heap.size (Maps.size _) l' h ld hd _ left cn) (fun _ wt => wt.rangeLeft m w5.heap.size)
          case atStart => exact ⟨_, _, hrg0, fun z hz => hz, PT.out.far (grown_keep hg0 (.inl rfl)) PT.out.d4, grown_keep hg0 (.inl rfl)⟩
          case round =>
            obtain ⟨left, cn, hR⟩ := hrel
            have RG := Lib.hid hR
            clear hR hrg0 hg0 hs0
            go_wp2_with (first
              | (at_next; refine wpList_next_ranges _ rfl _ rfl 40 K (plainElem Try.prog 4) (Value.int .u32) (fun v : Value => v) (fun key kl => inv_key) (fun v y _ => ⟨v, rfl⟩) m w5.heap.size _ _ _ _ rfl RG.out.rg ?_ ?_)
              | fail)
            · intro hc0 hl0
              obtain ⟨ld', hd', hu, hdn⟩ := RG.out.hs.dn.step c1
              have x1 := IntWalk.i64_in (1000 + (i : Int)) (by omega)
              have x2 : IntKind.u32.wrap (1000 + (i : Int)) = 1000 + (i : Int) := by simp [IntKind.wrap, IntKind.signed, IntKind.bits]; omega
              have x3 := IntWalk.i64_in (1000 + (i : Int) - (n : Int)) (by omega)
              have hUS := use_any RG.out.hs.t (k := 1000 + (i : Int)) (by omega) (by omega)
              rw [hu] at hUS
              by_cases hge : n ≤ i
              · have x4 : IntKind.u32.wrap (1000 + (i : Int) - (n : Int)) = 1000 + ((i - n : Nat) : Int) := by simp [IntKind.wrap, IntKind.signed, IntKind.bits]; omega
                have x5 : (n : Int) ≤ (i : Int) := by omega
                simp only [hge, decide_true, if_true] at hUS
                have HUS := Lib.hid hUS
                have HDN := Lib.hid hdn
                clear hUS hdn hu
                go_wp2_with fail
                refine HUS.out.mono ?_
                rintro e w11 ⟨rfl, s11, k11⟩
                have P11 := Lib.hid (RG.out.hs.obj2 s11 k11 HDN.out)
                clear s11 k11
                go_wp2_with fail
                go_roundw
                case rel => exact ⟨i + 1, _, _, _, _, _, by omega, by go_num, P11.out.below (by go_grown)⟩
                case measure => simp [intOf]; omega
              · have x5 : ¬ (n : Int) ≤ (i : Int) := by omega
                have x6 : decide (n ≤ i) = false := by simpa using hge
                simp only [x6, hge, if_false] at hUS
                have HUS := Lib.hid hUS
                have HDN := Lib.hid hdn
                clear hUS hdn hu
                go_wp2_with fail
                refine HUS.out.mono ?_
                rintro e w11 ⟨rfl, s11, k11⟩
                have P11 := Lib.hid (RG.out.hs.obj2 s11 k11 HDN.out)
                clear s11 k11
                go_wp2_with fail
                go_roundw
                case rel => exact ⟨i + 1, _, _, _, _, _, by omega, by go_num, P11.out.below (by go_grown)⟩
                case measure => simp [intOf]; omega
            · intro xk xv kl yv yw wn cnt1 hkey hlk hv hat hrg1 hlt1 hg1 hs1 hen
              obtain ⟨xk', ex, rfl, hwx⟩ := Maps.keyOf_int_inv und_u32 hkey
              cases ex
              have hmx : mem l' xk = true := by rw [← PT.out.mt.has_]; exact RG.out.sub _ hlk
              have k1 := grown_keep hg1 (.inr rfl)
              have PN := Lib.hid (RG.out.hs.far k1 PT.out.d4)
              have HH := Lib.hid (PN.out.s.has' xk hwx hmx)
              have KN := Lib.hid (RG.out.k.trans k1)
              have SN := Lib.hid (left_sub (k := .int .u32 xk) RG.out.sub)
              have HRG1 := Lib.hid hrg1
              clear k1 hmx hkey hlk hv hat hrg1 hg1
              go_wp2_with fail
              refine HH.out.mono ?_
              rintro e wl3 ⟨rfl, rfl⟩
              go_wp2_with fail
              go_roundw
              case rel => exact ⟨_, cnt1, HRG1.out, SN.out, PN.out, KN.out⟩
              case measure => rw [HRG1.out.left_eq, RG.out.rg.left_eq]; omega
      · have e0 : (what == 0) = false := by rw [beq_eq_false_iff_ne]; exact c0
        have e1 : (what == 1) = false := by rw [beq_eq_false_iff_ne]; exact c1'
        have PT := Lib.hid P6.out
        have hlm := PT.out.lenM
        clear P6 A
        have hfn : ¬ (n : Int) < (full l : Int) := by have := full_le l; omega
        have hfd : decide (n < full l) = false := by rw [decide_eq_false_iff_not]; omega
        go_wp2_with fail
        generalize (wr.alloc (.cells #[.int .i64 what, .int .u32 k] 44)) = w6 at *
        have HLN := Lib.hid PT.out.s.lenR
        as_aux_lemma =>
          refine HLN.out.mono ?_
          rintro e wl1 ⟨rfl, rfl⟩
          go_wp2_with fail
          refine HLN.out.mono ?_
          rintro e wl2 ⟨rfl, rfl⟩
          go_wp2_with (first
            | (at_range; refine wpList_range_own _ rfl _ 42 rfl 40 4 K und_mapb (plainElem Try.prog 4) m _ _ rfl PT.out.o ?_; intro w0 hrg0 hg0 hs0)
            | fail)
          go_frame
          go_loopw [21] (fun _ wt => ∃ (left : Lit → Bool) (cn : Nat), Rg W w6 wt n i c lo hi d lo2 hi2 m w6.heap.size (Maps.size D) l h ld hd D left cn) (fun _ wt => wt.rangeLeft m w6.heap.size)
          case atStart => exact ⟨_, _, hrg0, fun z hz => hz, PT.out.far (grown_keep hg0 (.inl rfl)) PT.out.d4, grown_keep hg0 (.inl rfl)⟩
          case round =>
            obtain ⟨left, cn, hR⟩ := hrel
            have RG := Lib.hid hR
            clear hR hrg0 hg0 hs0
            go_wp2_with (first
              | (at_next; refine wpList_next_ranges _ rfl _ rfl 40 K (plainElem Try.prog 4) (Value.int .u32) (fun v : Value => v) (fun key kl => inv_key) (fun v y _ => ⟨v, rfl⟩) m w6.heap.size _ _ _ _ rfl RG.out.rg ?_ ?_)
              | fail)
            · intro hc0 hl0
              obtain ⟨ld', hd', hu, hdn⟩ := RG.out.hs.dn.step c1
              have x1 := IntWalk.i64_in (1000 + (i : Int)) (by omega)
              have x2 : IntKind.u32.wrap (1000 + (i : Int)) = 1000 + (i : Int) := by simp [IntKind.wrap, IntKind.signed, IntKind.bits]; omega
              have x3 := IntWalk.i64_in (1000 + (i : Int) - (n : Int)) (by omega)
              have hUS := use_any RG.out.hs.t (k := 1000 + (i : Int)) (by omega) (by omega)
              rw [hu] at hUS
              by_cases hge : n ≤ i
              · have x4 : IntKind.u32.wrap (1000 + (i : Int) - (n : Int)) = 1000 + ((i - n : Nat) : Int) := by simp [IntKind.wrap, IntKind.signed, IntKind.bits]; omega
                have x5 : (n : Int) ≤ (i : Int) := by omega
                simp only [hge, decide_true, if_true] at hUS
                have HUS := Lib.hid hUS
                have HDN := Lib.hid hdn
                clear hUS hdn hu
                go_wp2_with fail
                refine HUS.out.mono ?_
                rintro e w11 ⟨rfl, s11, k11⟩
                have P11 := Lib.hid (RG.out.hs.obj2 s11 k11 HDN.out)
                clear s11 k11
                go_wp2_with fail
                go_roundw
                case rel => exact ⟨i + 1, _, _, _, _, _, by omega, by go_num, P11.out.below (by go_grown)⟩
                case measure => simp [intOf]; omega
              · have x5 : ¬ (n : Int) ≤ (i : Int) := by omega
                have x6 : decide (n ≤ i) = false := by simpa using hge
                simp only [x6, hge, if_false] at hUS
                have HUS := Lib.hid hUS
                have HDN := Lib.hid hdn
                clear hUS hdn hu
                go_wp2_with fail
                refine HUS.out.mono ?_
                rintro e w11 ⟨rfl, s11, k11⟩
                have P11 := Lib.hid (RG.out.hs.obj2 s11 k11 HDN.out)
                clear s11 k11
                go_wp2_with fail
                go_roundw
                case rel => exact ⟨i + 1, _, _, _, _, _, by omega, by go_num, P11.out.below (by go_grown)⟩
                case measure => simp [intOf]; omega
            · intro xk xv kl yv yw wn cnt1 hkey hlk hv hat hrg1 hlt1 hg1 hs1 hen
              obtain ⟨xk', ex, rfl, hwx⟩ := Maps.keyOf_int_inv und_u32 hkey
              cases ex
              have hmx : mem l xk = true := by rw [← PT.out.mt.has_]; exact RG.out.sub _ hlk
              have k1 := grown_keep hg1 (.inr rfl)
              have PN := Lib.hid (RG.out.hs.far k1 PT.out.d4)
              have HH := Lib.hid (PN.out.s.has' xk hwx hmx)
              have KN := Lib.hid (RG.out.k.trans k1)
              have SN := Lib.hid (left_sub (k := .int .u32 xk) RG.out.sub)
              have HRG1 := Lib.hid hrg1
              clear k1 hmx hkey hlk hv hat hrg1 hg1
              go_wp2_with fail
              refine HH.out.mono ?_
              rintro e wl3 ⟨rfl, rfl⟩
              go_wp2_with fail
              go_roundw
              case rel => exact ⟨_, cnt1, HRG1.out, SN.out, PN.out, KN.out⟩
              case measure => rw [HRG1.out.left_eq, RG.out.rg.left_eq]; omega
    · obtain rfl : i = len := by omega
      go_wp2_with fail
      refine (HK.out _ P.out.b).mono ?_
      rintro e w4 ⟨rfl, b4⟩
      go_wp2_with fail
      go_ret
      exact ⟨rfl, tr P.out.b b4⟩
set_option maxHeartbeats 1000000 in
set_option maxRecDepth 100000 in
theorem lholds_bad {W : World} {n : Int} {a : Option Addr} {len cap : Nat} (hk : Kn W) (hbad : n < 1 ∨ 40 < n ∨ 100 < (len : Int)) :
    Calls Try.prog 5 #[.int .i64 n, .slice a len cap] W fun e w' => e = .returned (.bool true) ∧ Below W.heap.size W w' := by
  have HK := Lib.hid hk
  clear hk
  have h3 : n < 1 ∨ (¬ n < 1 ∧ 40 < n) ∨ (¬ n < 1 ∧ ¬ 40 < n ∧ 100 < (len : Int)) := by omega
  clear hbad
  rcases h3 with c1 | ⟨c1, c2⟩ | ⟨c1, c2, c3⟩ <;>
  · go_enter Try.func5, Try.ntmps5
    go_wp2_with fail
    refine (HK.out _ (Below.refl _ _)).mono ?_
    rintro e w3 ⟨rfl, b3⟩
    go_wp2_with fail
    go_ret
    exact ⟨rfl, b3⟩
theorem lholds_any {W : World} {n : Int} {a : Option Addr} {len cap : Nat} {f0 f1 : Nat → Int} (hacts : Acts W.heap.size W a len f0 f1) (hk : Kn W) :
    Calls Try.prog 5 #[.int .i64 n, .slice a len cap] W fun e w' => e = .returned (.bool true) ∧ Below W.heap.size W w' := by
  by_cases h : n < 1 ∨ 40 < n ∨ 100 < (len : Int)
  · exact lholds_bad hk h
  · obtain ⟨m, rfl⟩ : ∃ m : Nat, n = (m : Int) := ⟨n.toNat, by omega⟩
    exact lholds_ok hacts hk (by omega) (by omega) (by omega)
end Go.Proofs.Yteppcjolgpdenaa.Seq
