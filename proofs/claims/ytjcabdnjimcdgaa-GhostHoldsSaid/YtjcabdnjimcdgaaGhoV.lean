/-
  Ghost lists (layer 28), the law of what holds.
-/
import Derived.Test.YtjcabdnjimcdgaaGhoRu
import Derived.Deep.CutBlock
import Derived.Deep.DeepCutAuto
set_option linter.unusedVariables false
set_option linter.unusedSimpArgs false
namespace Go.Proofs.Ytjcabdnjimcdgaa.Gho
open Go Go.RowKit Kit Go.Maps Lnk
set_option maxRecDepth 100000 in
set_option maxHeartbeats 16000000 in
theorem gholds_any {w : World} {n : Nat} {a : Option Addr} {len cap : Nat} {f0 f1 f2 : Nat → Int} (hacts : Ac3 w.heap.size w a len f0 f1 f2) (hn : n ≤ 40) (hlen : len ≤ 100) (HK : ∀ v, Below w.heap.size w v → Calls Try.prog 56 #[] v fun e w' => e = .returned (.bool true) ∧ Below v.heap.size v w') :
    Calls Try.prog 13 #[.int .i64 (n : Int), .slice a len cap] w fun e w' => e = .returned (.bool true) ∧ Below w.heap.size w w' := by
  have HNW := Lib.hid (gnew_ok w n (by omega))
  have HK0 := Lib.hid HK
  have HA := Lib.hid hacts
  have HI := Lib.hid (show n ≤ 40 ∧ len ≤ 100 from ⟨hn, hlen⟩)
  have h1 : ¬ (n : Int) < 0 := by omega
  have h2 : ¬ 40 < (n : Int) := by omega
  have h3 : ¬ 100 < (len : Int) := by omega
  have hmm := fun w => run_makeMap (P := Try.prog) 111 w
  clear hn hlen HK hacts
  go_enter Try.func13, Try.ntmps13
  go_wp2_with fail
  refine HNW.out.mono ?_
  rintro e w1 ⟨b, rfl, gs⟩
  have GS := Lib.hid (gs.mono (Nat.le_refl 0) (show 1 ≤ 10000 by omega))
  clear gs HNW
  go_wp2_with fail
  go_loopw [8] (fun iv v => ∃ (i : Nat) (most : Nat) (S : List (Nat × Nat)), i ≤ len ∧ iv = .int .i64 (i : Int) ∧ Hid (Hs w v b w1.heap.size i most S)) (fun iv _ => len - (intOf iv).toNat)
  case atStart =>
    refine ⟨0, n, [], Nat.zero_le _, rfl, Lib.hid ?_⟩
    have hb : Below w1.heap.size w1 (w1.alloc (.map #[] 0)) := by go_grown
    have hg := GS.out.gx
    have hs := GS.out.bl.size
    refine ⟨(hg.below hb).only fun j hj => .inr ⟨by omega, by rw [World.size_alloc]; omega⟩, ⟨0, Nat.le_refl _, .map [], World.ownsMap_made w1 Try.prog 38 (plainElem (H := Unit) Try.prog 3), Mi.nil⟩, List.Pairwise.nil, fun p hp => (by cases hp), hs, by have := HI.out; omega, Nat.zero_le _⟩
  case round =>
    obtain ⟨i, most, S, hi, rfl, H⟩ := hrel
    clear GS
    generalize w1.heap.size = m at *
    by_cases hlt : i < len
    · obtain ⟨x, rfl, hxb, y0, y1, y2, k0, k1⟩ := HA.out.below H.out.gx.bl i hlt
      have hlti : (i : Int) < (len : Int) := by omega
      generalize f1 i = k at *
      generalize f0 i = what at *
      generalize f2 i = z at *
      have hws := H.out.gx.bl.size
      have hxw : x.block < wr.heap.size := Nat.lt_of_lt_of_le hxb hws
      go_upto_block 2 with (fail)
      go_cut [] (fun wx => ∃ (mst : Nat) (S' : List (Nat × Nat)), Hid (Hs w wx b m (i + 1) mst S'))
      case first =>
        obtain ⟨nm, hnm, hb⟩ := H.out.box (what := what) (k := k) (z := z)
        have HB := Lib.hid hb
        have HM := Lib.hid (And.intro hnm hlt)
        obtain ⟨c0, c1, c2⟩ := HB.out.cells
        have K := Maps.int_keyed (P := Try.prog) und_u32
        obtain ⟨kn, rfl⟩ : ∃ kn : Nat, k = kn := ⟨k.toNat, by omega⟩
        have hkn : kn < 4294967296 := by omega
        have HKE := Lib.hid (Maps.keyOf_int_mk (P := Try.prog) und_u32 (wf32 hkn))
        clear y0 y1 y2 hxw hws hb hnm k0 k1
        generalize wr.alloc (.cells #[.int .i64 what, .int .u32 (kn : Int), .int .i64 z] 113) = w6 at *
        generalize wr.heap.size = bx at *
        have HH := Lib.hid (show kn < 4294967296 ∧ S.length ≤ most ∧ most ≤ 100 ∧ (∀ p ∈ S, p.2 < i) ∧ (S.Pairwise fun p q => q.2 < p.2) ∧ (S.map Prod.fst).Nodup from ⟨hkn, H.out.len, H.out.mb, H.out.lt, H.out.dec, H.out.gx.nd⟩)
        clear H hkn
        by_cases c0 : what = 0
        · subst c0
          as_aux_lemma =>
            have hwf : (Lit.int .i64 (i : Int)).wf = true := by
              have := HM.out.2
              have := HI.out.2
              show (decide (-9223372036854775808 ≤ (i : Int)) && decide ((i : Int) ≤ 9223372036854775807)) = true
              simp
              omega
            have hval : plainElem (H := Unit) Try.prog 3 (.int .i64 (i : Int)) = some (.lit (.int .i64 (i : Int)), []) := plainElem_int und_int hwf
            obtain ⟨D, ho, hd⟩ := HB.out.mo
            have HO := Lib.hid ho
            have HD := Lib.hid hd
            have HV := Lib.hid hval
            obtain ⟨S', e1, dec', lt', len', hcs, hhd⟩ := add_S (k := kn) (i := i) HH.out.2.2.2.2.2 HH.out.2.2.2.2.1 HH.out.2.2.2.1 HH.out.2.1
            obtain ⟨G, hG⟩ : ∃ G, addG (most : Int) (S.map Prod.fst) kn = G := ⟨_, rfl⟩
            rw [hG] at e1 hcs hhd
            obtain ⟨G1, gx, gl⟩ := G
            simp only at e1 hcs hhd
            have HG := Lib.hid hG
            have HS' := Lib.hid (show (S'.map Prod.fst = G1) ∧ (S'.Pairwise fun p q => q.2 < p.2) ∧ (∀ p ∈ S', p.2 < i + 1) ∧ S'.length ≤ most from ⟨e1, dec', lt', len'⟩)
            have HOL : Hid (∀ v, Hb w v b m bx (i + 1) (most : Int) G1 (nm + 1) ((kn, i) :: wo S kn) 0 (kn : Int) z → Calls Try.prog 61 #[.map (some m), .int .u32 (gx : Int), .bool gl] v fun e v' => e = .returned (.bool true) ∧ Hb w v' b m bx (i + 1) (most : Int) G1 (nm + 1) S' 0 (kn : Int) z) := Lib.hid (by
              intro v hv
              rcases hcs with ⟨rfl, rfl, rfl⟩ | ⟨rfl, n', hm', hle', rfl⟩
              · refine (old_no v (.map (some m))).mono ?_
                rintro e u ⟨rfl, rfl⟩
                exact ⟨rfl, hv⟩
              · have hgx : gx < 4294967296 := by
                  rcases List.mem_cons.1 hm' with e | hm2
                  · cases e; exact HH.out.1
                  · exact HB.out.gx.klt _ (List.mem_map.2 ⟨_, (wo_mem.1 hm2).1, rfl⟩)
                refine (old_in hv.mo hm' hgx hle').mono ?_
                rintro e u ⟨rfl, mo, kp⟩
                exact ⟨rfl, hv.old mo kp⟩)
            have HHD := Lib.hid hhd
            have hsm : nm < maxLen := by have := HM.out; have := HI.out; unfold maxLen; omega
            clear ho hd hval e1 dec' lt' len' hcs hhd hG hwf
            go_wp2_with (first
              | (at_mapUpdate; refine wpList_mapUpdate_own _ rfl _ _ _ 111 rfl 38 3 K und_mapi (plainElem Try.prog 3) m nm D rfl HO.out hsm _ _ (.int .u32 (kn : Int)) rfl rfl HKE.out _ [] HV.out ?_; intro w7 ho7 hg7; have H7 := Lib.hid (HB.out.old ⟨_, ho7, HD.out.put (HO.out.tidy K) kn i⟩ (kp_grown hg7)); clear ho7 hg7; obtain ⟨d0, d1, d2⟩ := H7.out.cells)
              | fail)
            have hadd := H7.out.gx.add (by omega) (by rw [List.length_map]; have := HH.out.2.1; have := HH.out.2.2.1; omega) (by have := HM.out; have := HI.out; omega) kn HH.out.1 (by rw [List.length_map]; have := HH.out.2.1; omega)
            rw [HG.out] at hadd
            have HAD := Lib.hid hadd
            clear hadd c0 c1 c2 hsm
            refine HAD.out.mono ?_
            rintro e w8 ⟨rfl, hr⟩
            have H8 := Lib.hid (H7.out.op hr)
            clear hr HAD H7 HB d0 d1 d2
            go_upto_region 15 with fail
            have H8D := Lib.hid (H8.out.below (Below.drew (Below.refl w8.heap.size w8)))
            go_cut [103] (fun cc wx => cc = .bool false ∧ Hid (Hb w wx b m bx (i + 1) (most : Int) G1 (nm + 1) S' 0 (kn : Int) z))
            case first =>
              by_cases hm0 : most = 0
              · have HM0 : Hid (∀ v, Hb w v b m bx (i + 1) (most : Int) G1 (nm + 1) S' 0 (kn : Int) z → Calls Try.prog 62 #[.pointer (some ⟨b, 0, none⟩)] v fun e w' => e = .returned (.int .i64 0) ∧ v = w') := Lib.hid (fun v hv => by
                  have h := Gx.bound hv.gx
                  rw [hm0] at h
                  exact h)
                clear hm0
                refine wp_region_any (by kernel_rfl) ?_
                try (change wpAny _ _ _ _ _ _ _ (World.drew _))
                refine wpAny_take (i := 0) (v := ?vv0) rfl (by kernel_rfl) (by kernel_rfl) (by kernel_rfl) (fun _ _ _ h => h) (Or.inl ⟨by rfl, ?hy0⟩) ?nxt0
                case hy0 => (intro w; go_simp; try with_reducible rfl)
                try simp only [Act.put, List.getElem_toArray, List.getElem_cons_succ, List.getElem_cons_zero, List.setIfInBounds_toArray, List.set_cons_succ, List.set_cons_zero]
                refine wpAny_take (i := 1) (v := ?vv1) rfl (by kernel_rfl) (by kernel_rfl) (by kernel_rfl) (fun _ _ _ h => h) (Or.inl ⟨by rfl, ?hy1⟩) ?nxt1
                case hy1 => (intro w; go_simp; try with_reducible rfl)
                try simp only [Act.put, List.getElem_toArray, List.getElem_cons_succ, List.getElem_cons_zero, List.setIfInBounds_toArray, List.set_cons_succ, List.set_cons_zero]
                refine wpAny_take (i := 2) (v := ?vv2) rfl (by kernel_rfl) (by kernel_rfl) (by kernel_rfl) (fun _ _ _ h => h) (Or.inl ⟨by rfl, ?hy2⟩) ?nxt2
                case hy2 => (intro w; go_simp; try with_reducible rfl)
                try simp only [Act.put, List.getElem_toArray, List.getElem_cons_succ, List.getElem_cons_zero, List.setIfInBounds_toArray, List.set_cons_succ, List.set_cons_zero]
                refine wpAny_take (i := 3) (v := ?vv3) rfl (by kernel_rfl) (by kernel_rfl) (by kernel_rfl) (fun _ _ _ h => h) (Or.inl ⟨by rfl, ?hy3⟩) ?nxt3
                case hy3 => (intro w; go_simp; try with_reducible rfl)
                try simp only [Act.put, List.getElem_toArray, List.getElem_cons_succ, List.getElem_cons_zero, List.setIfInBounds_toArray, List.set_cons_succ, List.set_cons_zero]
                refine wpAny_take (i := 4) (v := ?vv4) rfl (by kernel_rfl) (by kernel_rfl) (by kernel_rfl) (fun _ _ _ h => h) (Or.inl ⟨by rfl, ?hy4⟩) ?nxt4
                case hy4 => (intro w; go_simp; try with_reducible rfl)
                try simp only [Act.put, List.getElem_toArray, List.getElem_cons_succ, List.getElem_cons_zero, List.setIfInBounds_toArray, List.set_cons_succ, List.set_cons_zero]
                refine wpAny_take (i := 5) (v := ?vv5) rfl (by kernel_rfl) (by kernel_rfl) (by kernel_rfl) (fun _ _ _ h => h) (Or.inl ⟨by rfl, ?hy5⟩) ?nxt5
                case hy5 => (intro w; go_simp; try with_reducible rfl)
                try simp only [Act.put, List.getElem_toArray, List.getElem_cons_succ, List.getElem_cons_zero, List.setIfInBounds_toArray, List.set_cons_succ, List.set_cons_zero]
                refine wpAny_ready (rs := [6]) (by kernel_rfl) (by simp) ?_
                refine AllReady.cons rfl (fun K hK => ?_) AllReady.nil
                go_simp
                go_wp2_with (first | (go_at_call 61; refine (HOL.out _ H8D.out).mono ?_; rintro e u1 ⟨rfl, h9⟩; have H9 := Lib.hid h9; clear h9) | fail)
                refine wpAny_take (i := 7) (v := ?vv7) rfl (by kernel_rfl) (by kernel_rfl) (by kernel_rfl) (fun _ _ _ h => h) (Or.inl ⟨by rfl, ?hy7⟩) ?nxt7
                case hy7 => (intro w; go_simp; try with_reducible rfl)
                try simp only [Act.put, List.getElem_toArray, List.getElem_cons_succ, List.getElem_cons_zero, List.setIfInBounds_toArray, List.set_cons_succ, List.set_cons_zero]
                refine wpAny_take (i := 8) (v := ?vv8) rfl (by kernel_rfl) (by kernel_rfl) (by kernel_rfl) (fun _ _ _ h => h) (Or.inl ⟨by rfl, ?hy8⟩) ?nxt8
                case hy8 => (intro w; go_simp; try with_reducible rfl)
                try simp only [Act.put, List.getElem_toArray, List.getElem_cons_succ, List.getElem_cons_zero, List.setIfInBounds_toArray, List.set_cons_succ, List.set_cons_zero]
                refine wpAny_take (i := 9) (v := ?vv9) rfl (by kernel_rfl) (by kernel_rfl) (by kernel_rfl) (fun _ _ _ h => h) (Or.inl ⟨by rfl, ?hy9⟩) ?nxt9
                case hy9 => (intro w; go_simp; try with_reducible rfl)
                try simp only [Act.put, List.getElem_toArray, List.getElem_cons_succ, List.getElem_cons_zero, List.setIfInBounds_toArray, List.set_cons_succ, List.set_cons_zero]
                refine wpAny_take (i := 10) (v := ?vv10) rfl (by kernel_rfl) (by kernel_rfl) (by kernel_rfl) (fun _ _ _ h => h) (Or.inl ⟨by rfl, ?hy10⟩) ?nxt10
                case hy10 => (intro w; go_simp; try with_reducible rfl)
                try simp only [Act.put, List.getElem_toArray, List.getElem_cons_succ, List.getElem_cons_zero, List.setIfInBounds_toArray, List.set_cons_succ, List.set_cons_zero]
                refine wpAny_ready (rs := [11]) (by kernel_rfl) (by simp) ?_
                refine AllReady.cons rfl (fun K hK => ?_) AllReady.nil
                go_simp
                go_wp2_with (first | (go_at_call 62; refine (HM0.out _ H9.out).mono ?_; rintro e u2 ⟨rfl, rfl⟩) | fail)
                refine wpAny_take (i := 12) (v := ?vv12) rfl (by kernel_rfl) (by kernel_rfl) (by kernel_rfl) (fun _ _ _ h => h) (Or.inl ⟨by rfl, ?hy12⟩) ?nxt12
                case hy12 => (intro w; go_simp; try with_reducible rfl)
                try simp only [Act.put, List.getElem_toArray, List.getElem_cons_succ, List.getElem_cons_zero, List.setIfInBounds_toArray, List.set_cons_succ, List.set_cons_zero]
                refine wpAny_take (i := 13) (v := ?vv13) rfl (by kernel_rfl) (by kernel_rfl) (by kernel_rfl) (fun _ _ _ h => h) (Or.inl ⟨by rfl, ?hy13⟩) ?nxt13
                case hy13 => (intro w; go_simp; try with_reducible rfl)
                try simp only [Act.put, List.getElem_toArray, List.getElem_cons_succ, List.getElem_cons_zero, List.setIfInBounds_toArray, List.set_cons_succ, List.set_cons_zero]
                refine wpAny_take (i := 14) (v := undef) rfl (by kernel_rfl) (by kernel_rfl) (by kernel_rfl) (fun _ _ _ h => h) (Or.inr ⟨by rfl, rfl⟩) ?_
                try simp only [Act.put, List.getElem_toArray, List.getElem_cons_succ, List.getElem_cons_zero, List.setIfInBounds_toArray, List.set_cons_succ, List.set_cons_zero]
                refine wpAny_take (i := 15) (v := undef) rfl (by kernel_rfl) (by kernel_rfl) (by kernel_rfl) (fun _ _ _ h => h) (Or.inr ⟨by rfl, rfl⟩) ?_
                try simp only [Act.put, List.getElem_toArray, List.getElem_cons_succ, List.getElem_cons_zero, List.setIfInBounds_toArray, List.set_cons_succ, List.set_cons_zero]
                refine wpAny_take (i := 16) (v := undef) rfl (by kernel_rfl) (by kernel_rfl) (by kernel_rfl) (fun _ _ _ h => h) (Or.inr ⟨by rfl, rfl⟩) ?_
                try simp only [Act.put, List.getElem_toArray, List.getElem_cons_succ, List.getElem_cons_zero, List.setIfInBounds_toArray, List.set_cons_succ, List.set_cons_zero]
                refine wpAny_take (i := 17) (v := undef) rfl (by kernel_rfl) (by kernel_rfl) (by kernel_rfl) (fun _ _ _ h => h) (Or.inr ⟨by rfl, rfl⟩) ?_
                try simp only [Act.put, List.getElem_toArray, List.getElem_cons_succ, List.getElem_cons_zero, List.setIfInBounds_toArray, List.set_cons_succ, List.set_cons_zero]
                refine wpAny_take (i := 18) (v := undef) rfl (by kernel_rfl) (by kernel_rfl) (by kernel_rfl) (fun _ _ _ h => h) (Or.inr ⟨by rfl, rfl⟩) ?_
                try simp only [Act.put, List.getElem_toArray, List.getElem_cons_succ, List.getElem_cons_zero, List.setIfInBounds_toArray, List.set_cons_succ, List.set_cons_zero]
                refine wpAny_take (i := 19) (v := undef) rfl (by kernel_rfl) (by kernel_rfl) (by kernel_rfl) (fun _ _ _ h => h) (Or.inr ⟨by rfl, rfl⟩) ?_
                try simp only [Act.put, List.getElem_toArray, List.getElem_cons_succ, List.getElem_cons_zero, List.setIfInBounds_toArray, List.set_cons_succ, List.set_cons_zero]
                refine wpAny_take (i := 20) (v := undef) rfl (by kernel_rfl) (by kernel_rfl) (by kernel_rfl) (fun _ _ _ h => h) (Or.inr ⟨by rfl, rfl⟩) ?_
                try simp only [Act.put, List.getElem_toArray, List.getElem_cons_succ, List.getElem_cons_zero, List.setIfInBounds_toArray, List.set_cons_succ, List.set_cons_zero]
                refine wpAny_take (i := 21) (v := undef) rfl (by kernel_rfl) (by kernel_rfl) (by kernel_rfl) (fun _ _ _ h => h) (Or.inr ⟨by rfl, rfl⟩) ?_
                try simp only [Act.put, List.getElem_toArray, List.getElem_cons_succ, List.getElem_cons_zero, List.setIfInBounds_toArray, List.set_cons_succ, List.set_cons_zero]
                refine wpAny_take (i := 22) (v := undef) rfl (by kernel_rfl) (by kernel_rfl) (by kernel_rfl) (fun _ _ _ h => h) (Or.inr ⟨by rfl, rfl⟩) ?_
                try simp only [Act.put, List.getElem_toArray, List.getElem_cons_succ, List.getElem_cons_zero, List.setIfInBounds_toArray, List.set_cons_succ, List.set_cons_zero]
                refine wpAny_take (i := 23) (v := undef) rfl (by kernel_rfl) (by kernel_rfl) (by kernel_rfl) (fun _ _ _ h => h) (Or.inr ⟨by rfl, rfl⟩) ?_
                try simp only [Act.put, List.getElem_toArray, List.getElem_cons_succ, List.getElem_cons_zero, List.setIfInBounds_toArray, List.set_cons_succ, List.set_cons_zero]
                refine wpAny_take (i := 24) (v := undef) rfl (by kernel_rfl) (by kernel_rfl) (by kernel_rfl) (fun _ _ _ h => h) (Or.inr ⟨by rfl, rfl⟩) ?_
                try simp only [Act.put, List.getElem_toArray, List.getElem_cons_succ, List.getElem_cons_zero, List.setIfInBounds_toArray, List.set_cons_succ, List.set_cons_zero]
                refine wpAny_take (i := 25) (v := undef) rfl (by kernel_rfl) (by kernel_rfl) (by kernel_rfl) (fun _ _ _ h => h) (Or.inr ⟨by rfl, rfl⟩) ?_
                try simp only [Act.put, List.getElem_toArray, List.getElem_cons_succ, List.getElem_cons_zero, List.setIfInBounds_toArray, List.set_cons_succ, List.set_cons_zero]
                refine wpAny_take (i := 26) (v := ?vv26) rfl (by kernel_rfl) (by kernel_rfl) (by kernel_rfl) (fun _ _ _ h => h) (Or.inl ⟨by rfl, ?hy26⟩) ?nxt26
                case hy26 => (intro w; go_simp; try with_reducible rfl)
                try simp only [Act.put, List.getElem_toArray, List.getElem_cons_succ, List.getElem_cons_zero, List.setIfInBounds_toArray, List.set_cons_succ, List.set_cons_zero]
                refine wpAny_take (i := 27) (v := ?vv27) rfl (by kernel_rfl) (by kernel_rfl) (by kernel_rfl) (fun _ _ _ h => h) (Or.inl ⟨by rfl, ?hy27⟩) ?nxt27
                case hy27 => (intro w; go_simp; try with_reducible rfl)
                try simp only [Act.put, List.getElem_toArray, List.getElem_cons_succ, List.getElem_cons_zero, List.setIfInBounds_toArray, List.set_cons_succ, List.set_cons_zero]
                refine wpAny_done (by kernel_rfl) ?_ _
                all_goals (go_wp2_with fail; go_meet; exact ⟨rfl, H9⟩)
              · obtain ⟨tl, htl⟩ := HHD.out (by omega)
                subst htl
                have hmp : (0 : Int) < (most : Int) := by omega
                have hmp2 : decide (0 < most) = true := decide_eq_true (by omega)
                have HLE := Lib.hid (show tl.length + 1 ≤ 1000000 by have := congrArg List.length HS'.out.1; simp at this; have := HS'.out.2.2.2; have := HH.out.2.2.1; omega)
                obtain ⟨N, hN⟩ : ∃ N, (kn :: tl).length = N := ⟨_, rfl⟩
                have hNp : 0 < N := by rw [← hN]; simp
                have hN1 : ¬ (N : Int) = 0 := by omega
                have hN2 : ((N : Int) == 0) = false := by rw [beq_eq_false_iff_ne]; exact hN1
                have hN3 : ¬ N = 0 := by omega
                have hN4 : (0 : Int) < (N : Int) := by omega
                have hN5 : decide (N = 0) = false := decide_eq_false hN3
                have HN := Lib.hid hN
                clear hN hm0
                go_region_with (first
                  | (go_at_call 61; refine (HOL.out _ H8D.out).mono ?_; rintro e u1 ⟨rfl, h9⟩; have H9 := Lib.hid h9; obtain ⟨d0, d1, d2⟩ := h9.cells; clear h9)
                  | (go_at_call 62; refine (Gx.bound H9.out.gx).mono ?_; rintro e u2 ⟨rfl, rfl⟩)
                  | (go_at_call 63; refine (Gx.len H9.out.gx).mono ?_; rintro e u2 ⟨rfl, rfl⟩; rw [HN.out])
                  | (go_at_call 64; refine (Gx.keys' H9.out.gx (by rw [List.length_cons]; exact HLE.out)).mono ?_; rintro e u3 ⟨u, rfl, hrow, hb3⟩; rw [HN.out] at hrow; obtain ⟨p, c, rfl, hru, -⟩ := row_ru hrow (by rw [ints_len]; exact HN.out); obtain ⟨y, rfl, -, yc⟩ := hru 0 (kn : Int) rfl; rw [show y.add 0 = y by simp [Addr.add]] at yc; have H10 := Lib.hid (H9.out.below hb3); obtain ⟨f0, f1, f2⟩ := H10.out.cells; clear hrow hb3 hru)
                  | fail)
                all_goals (go_wp2_with fail; go_meet; exact ⟨rfl, H10⟩)
            case rest =>
              obtain ⟨rfl, HU⟩ := hcut
              clear H8 H8D
              go_wp2_with fail
              go_meet
              case rel =>
                obtain ⟨g1, g2, g3, g4⟩ := HS'.out
                exact ⟨most, S', Lib.hid (HU.out.hs g1 (Nat.le_refl _) (by have := HM.out.1; omega) g2 g3 HH.out.2.2.1 g4)⟩
        by_cases c1 : what = 1
        · subst c1
          as_aux_lemma =>
            have hrm := HB.out.gx.remove kn HH.out.1
            obtain ⟨t, ht⟩ : ∃ t, decide (kn ∈ S.map Prod.fst) = t := ⟨_, rfl⟩
            rw [ht] at hrm
            have htt : (t != t) = false := by cases t <;> rfl
            have HT := Lib.hid ht
            have HRM := Lib.hid hrm
            clear hrm ht c0
            go_wp2_with fail
            refine HRM.out.mono ?_
            rintro e w7 ⟨rfl, hr⟩
            have H7 := Lib.hid (HB.out.op hr)
            obtain ⟨d0, d1, d2⟩ := H7.out.cells
            obtain ⟨D, ho, hd⟩ := H7.out.mo
            obtain ⟨v, lk⟩ : ∃ v : Int, (Instr.lookup 111 (.map (some m)) (.int .u32 (kn : Int)) true).run Try.prog w7 = .ok (.tuple #[.int .i64 v, .bool t]) w7 := by
              by_cases hin : kn ∈ S.map Prod.fst
              · obtain ⟨⟨a1, a2⟩, hm, rfl⟩ := List.mem_map.1 hin
                exact ⟨_, by rw [← HT.out, decide_eq_true hin]; exact looki_in ho hd HH.out.1 hm⟩
              · obtain ⟨v, hv⟩ := looki_no ho hd HH.out.1 (fun n hn => hin (List.mem_map.2 ⟨_, hn, rfl⟩))
                exact ⟨v, by rw [← HT.out, decide_eq_false hin]; exact hv⟩
            have HO := Lib.hid ho
            have HD := Lib.hid hd
            clear hr ho hd HRM HB c1 c2
            go_wp2_with (first
              | (at_delete; refine wpList_delete_own _ rfl _ _ 111 38 rfl 3 K und_mapi (plainElem Try.prog 3) m nm D rfl HO.out _ (.int .u32 (kn : Int)) rfl HKE.out ?_; intro w8 ho8 ht8; have H8 := Lib.hid (H7.out.old ⟨_, ho8, HD.out.del (HO.out.tidy K) kn⟩ (kp_grown ht8.grown)); clear ho8 ht8)
              | fail)
            go_meet
            case rel =>
              obtain ⟨h1, h2, h3, h4, h5, h6⟩ := HH.out
              refine ⟨most, wo S kn, Lib.hid (H8.out.hs (wo_fst h6) (by omega) (by have := HM.out.1; omega) (h5.filter _) (fun p hp => by have := h4 p (wo_mem.1 hp).1; omega) h3 (Nat.le_trans (List.length_filter_le ..) h2))⟩
        by_cases c2 : what = 2
        · subst c2
          as_aux_lemma =>
            rcases List.eq_nil_or_concat S with hS | ⟨T, ⟨xk, xn⟩, hS⟩
            · subst hS
              have hp := HB.out.gx.pop_none
              have HP := Lib.hid hp
              clear hp c0 c1
              go_wp2_with fail
              refine HP.out.mono ?_
              rintro e w7 ⟨rfl, b7⟩
              have H7 := Lib.hid (HB.out.below b7)
              obtain ⟨D, ho, hd⟩ := H7.out.mo
              have hlm := ho.len und_mapi
              rw [hd.size] at hlm
              have HOL := Lib.hid (old_no w7 (.map (some m)))
              clear ho hd b7 HB HP c2
              go_wp2_with fail
              refine HOL.out.mono ?_
              rintro e w8 ⟨rfl, rfl⟩
              go_wp2_with fail
              go_meet
              case rel =>
                obtain ⟨h1, h2, h3, h4, h5, h6⟩ := HH.out
                exact ⟨most, [], Lib.hid (H7.out.hs rfl (by omega) (by have := HM.out.1; omega) h5 (fun p hp => by cases hp) h3 h2)⟩
            · rw [List.concat_eq_append] at hS
              subst hS
              have hp := HB.out.gx
              rw [List.map_append, List.map_singleton] at hp
              have HP := Lib.hid hp.pop
              have hxk : xk < 4294967296 := HB.out.gx.klt xk (by simp)
              have HXK := Lib.hid hxk
              clear hp hxk c0 c1
              go_wp2_with fail
              refine HP.out.mono ?_
              rintro e w7 ⟨rfl, hr⟩
              have H7 := Lib.hid (HB.out.op hr)
              obtain ⟨D, ho, hd⟩ := H7.out.mo
              have hlm := ho.len und_mapi
              rw [hd.size] at hlm
              have hpos : (0 : Int) < ((T ++ [(xk, xn)]).length : Int) := by rw [List.length_append, List.length_singleton]; omega
              have HOL := Lib.hid (old_in H7.out.mo (k := xk) (n := xn) (by simp) HXK.out (last_le HH.out.2.2.2.2.1))
              clear ho hd hr HB HP c2
              go_wp2_with fail
              refine HOL.out.mono ?_
              rintro e w8 ⟨rfl, mo8, k8⟩
              have H8 := Lib.hid (H7.out.old mo8 k8)
              clear mo8 k8
              go_wp2_with fail
              go_meet
              case rel =>
                obtain ⟨h1, h2, h3, h4, h5, h6⟩ := HH.out
                rw [wo_last h6] at H8
                exact ⟨most, T, Lib.hid (H8.out.hs rfl (by omega) (by have := HM.out.1; omega) (List.pairwise_append.1 h5).1 (fun p hp => by have := h4 p (by simp [hp]); omega) h3 (by have := h2; simp at this; omega))⟩
        by_cases c3 : what = 3
        · subst c3
          as_aux_lemma =>
            have hwi := IntWalk.i64_in ((i : Int) + 1) (by have := HM.out.2; have := HI.out.2; omega)
            by_cases hz60 : 60 < z
            · have H6 := Lib.hid (show Hs w w6 b m (i + 1) most S by
                obtain ⟨h1, h2, h3, h4, h5, h6⟩ := HH.out
                exact HB.out.hs rfl (by omega) (by have := HM.out.1; omega) h5 (fun p hp => by have := h4 p hp; omega) h3 h2)
              clear HB c0 c1
              go_wp2_with fail
              go_roundw
              case rel => exact ⟨i + 1, most, S, by have := HM.out.2; omega, by go_num, H6⟩
              case measure => have := HM.out.2; simp [intOf]; omega
            by_cases hz0 : 0 ≤ z
            · obtain ⟨M, rfl⟩ : ∃ M : Nat, z = M := ⟨z.toNat, by omega⟩
              have HMM := Lib.hid (show M ≤ 60 by omega)
              have hrz := HB.out.gx.resize M (by omega) (by rw [List.length_map]; have := HH.out.2.1; have := HH.out.2.2.1; omega)
              have HRZ := Lib.hid hrz
              clear hrz c0 c1
              go_wp2_with fail
              refine HRZ.out.mono ?_
              rintro e w7 ⟨ov, rfl, hrow, hr⟩
              have H7 := Lib.hid (HB.out.op hr)
              rw [List.length_map] at hrow
              obtain ⟨p, c, rfl, hru, hpb⟩ := row_ru hrow (by rw [ints_len, List.length_reverse, List.length_drop, List.length_map])
              have hmb := HB.out.mo.lt
              have HPM := Lib.hid (show ∀ y : Addr, p = some y → ¬ y.block = m from fun y hy => by have := hpb y hy; omega)
              have HRU := Lib.hid hru
              have HKL := Lib.hid (show ∀ q ∈ S, q.1 < 4294967296 from fun q hq => HB.out.gx.klt _ (List.mem_map.2 ⟨q, hq, rfl⟩))
              obtain ⟨d0, d1, d2⟩ := H7.out.cells
              clear hrow hr HRZ hru hpb hmb HB c2
              go_wp2_with fail
              clear d0 d1 d2
              go_loopw [21] (fun v wt => ∃ j : Nat, j ≤ S.length - M ∧ v = .int .i64 (j : Int) ∧ Hid (Hb w wt b m bx i (M : Int) ((S.map Prod.fst).take M) nm (S.take (S.length - j)) 3 (kn : Int) (M : Int)) ∧ Hid (Ru wt p (ints (((S.map Prod.fst).drop M).reverse)))) (fun v _ => S.length - M - (intOf v).toNat)
              case atStart => exact ⟨0, Nat.zero_le _, rfl, by rw [Nat.sub_zero, List.take_length]; exact H7, HRU⟩
              case round =>
                obtain ⟨j, hj, rfl, H8, HR8⟩ := hrel
                clear H7 HRU
                by_cases hjl : j < S.length - M
                · have hjl' : (j : Int) < ((S.length - M : Nat) : Int) := by omega
                  obtain ⟨xk, xn, htk, hxk⟩ := res_at hjl
                  obtain ⟨y, rfl, hyb, yc⟩ := HR8.out j _ hxk
                  have wj := IntWalk.i64_in ((j : Int) + 1) (by have := HH.out.2.1; have := HH.out.2.2.1; omega)
                  have hSn : ((S.take (S.length - j)).map Prod.fst).Nodup := HH.out.2.2.2.2.2.sublist ((List.take_sublist _ _).map _)
                  have hSd : (S.take (S.length - j)).Pairwise fun p q => q.2 < p.2 := HH.out.2.2.2.2.1.sublist (List.take_sublist _ _)
                  have hmx : (xk, xn) ∈ S.take (S.length - j) := by rw [htk]; simp
                  have hle := hSd
                  rw [htk] at hle hSn
                  have hle2 := last_le hle
                  rw [← htk] at hle2
                  have hol := old_in H8.out.mo hmx (HKL.out _ (List.mem_of_mem_take hmx)) hle2
                  rw [htk, wo_last hSn] at hol
                  have HOL := Lib.hid hol
                  clear htk hxk hSn hSd hmx hle hle2 hol
                  go_wp2_with fail
                  refine HOL.out.mono ?_
                  rintro e w8 ⟨rfl, mo8, k8⟩
                  have H9 := Lib.hid (H8.out.old mo8 k8)
                  have HR9 := Lib.hid (HR8.out.kp k8 HPM.out)
                  clear mo8 k8
                  go_wp2_with fail
                  go_roundw
                  case rel => exact ⟨j + 1, by omega, by go_num, H9, HR9⟩
                  case measure => simp [intOf]; omega
                · obtain rfl : j = S.length - M := by omega
                  clear hj hjl
                  go_wp2_with fail
                  go_meet
                  case rel =>
                    obtain ⟨h1, h2, h3, h4, h5, h6⟩ := HH.out
                    have h8 := H8.out
                    rw [take_end] at h8
                    refine ⟨M, S.take M, Lib.hid (h8.hs List.map_take (by omega) (by have := HM.out.1; omega) (h5.sublist (List.take_sublist _ _)) (fun p hp => by have := h4 p (List.mem_of_mem_take hp); omega) (by have := HMM.out; omega) (by rw [List.length_take]; omega))⟩
            · have hzb : ¬ (0 : Int) ≤ z := hz0
              have hrz := HB.out.gx.resize_bad z (by omega)
              have HRZ := Lib.hid hrz
              have H6 := Lib.hid (show Hs w w6 b m (i + 1) most S by
                obtain ⟨h1, h2, h3, h4, h5, h6⟩ := HH.out
                exact HB.out.hs rfl (by omega) (by have := HM.out.1; omega) h5 (fun p hp => by have := h4 p hp; omega) h3 h2)
              obtain ⟨d0, d1, d2⟩ := HB.out.cells
              clear hrz c0 c1 hz0
              go_wp2_with fail
              refine HRZ.out.mono ?_
              rintro e w7 ⟨rfl, rfl⟩
              go_wp2_with fail
              go_loopw [21] (fun v wt => v = .int .i64 0 ∧ w6 = wt) (fun _ _ => 0)
              case atStart => exact ⟨rfl, rfl⟩
              case round =>
                obtain ⟨rfl, rfl⟩ := hrel
                go_wp2_with fail
                go_meet
                case rel => exact ⟨most, S, H6⟩
        have e0 : (what == 0) = false := by rw [beq_eq_false_iff_ne]; exact c0
        have e1 : (what == 1) = false := by rw [beq_eq_false_iff_ne]; exact c1
        have e2 : (what == 2) = false := by rw [beq_eq_false_iff_ne]; exact c2
        have e3 : (what == 3) = false := by rw [beq_eq_false_iff_ne]; exact c3
        go_wp2_with fail
        go_meet
        case rel =>
          obtain ⟨h1, h2, h3, h4, h5, h6⟩ := HH.out
          exact ⟨most, S, Lib.hid (HB.out.hs rfl (by omega) (by have := HM.out.1; omega) h5 (fun p hp => by have := h4 p hp; omega) h3 h2)⟩
      case rest =>
        as_aux_lemma =>
          obtain ⟨mst, S', HS⟩ := hcut
          have hkl : (S'.map Prod.fst).length ≤ 1000000 := by rw [List.length_map]; have := HS.out.len; have := HS.out.mb; omega
          have HKY := Lib.hid (HS.out.gx.keys' hkl)
          clear y0 y1 y2 hkl hxw hws H hi k0 k1
          go_wp2_with fail
          refine HKY.out.mono ?_
          rintro e w2 ⟨u, rfl, hrow, b2⟩
          obtain ⟨p, c, rfl, hru⟩ := ks_ru (l := ints (S'.map Prod.fst)) (show Ks w2 wc.heap.size u (ints (S'.map Prod.fst)) by unfold Ks; rw [ints_len]; exact hrow)
          rw [ints_len, List.length_map]
          have H2 := Lib.hid (HS.out.below b2)
          have HR := Lib.hid hru
          clear HKY hrow b2 hru HS
          have HMO := Lib.hid (Gx.bound H2.out.gx)
          have HLN := Lib.hid (Gx.len H2.out.gx)
          obtain ⟨nm, hnm, D, ho, hd⟩ := H2.out.mo
          have hlm := ho.len und_mapi
          rw [hd.size] at hlm
          have hle : ¬ (mst : Int) < (S'.length : Int) := by have := H2.out.len; omega
          rw [List.length_map] at HLN
          have hld : decide (mst < S'.length) = false := decide_eq_false (by have := H2.out.len; omega)
          have HO := Lib.hid ho
          have HD := Lib.hid hd
          clear ho hd
          go_wp2_with fail
          refine HMO.out.mono ?_
          rintro e wl1 ⟨rfl, rfl⟩
          go_wp2_with fail
          refine HLN.out.mono ?_
          rintro e wl2 ⟨rfl, rfl⟩
          go_wp2_with fail
          have wi := IntWalk.i64_in ((i : Int) + 1) (by have := HI.out; omega)
          have HLT := Lib.hid (And.intro hlt HI.out.2)
          clear hlm hle hld HMO HLN hnm h1 h2 h3 hlt hlti hxb
          go_loopw [23] (fun v wt => ∃ j : Nat, j ≤ S'.length ∧ v = .int .i64 j ∧ w2 = wt) (fun v _ => S'.length - (intOf v).toNat)
          case atStart => exact ⟨0, by omega, rfl, rfl⟩
          case round =>
            obtain ⟨j, hj, rfl, rfl⟩ := hrel
            by_cases hjl : j < S'.length
            · have hjl' : (j : Int) < (S'.length : Int) := by omega
              obtain ⟨kj, tj, hsj⟩ : ∃ kj tj, S'[j]? = some (kj, tj) := ⟨_, _, List.getElem?_eq_getElem hjl⟩
              have hmj : (kj, tj) ∈ S' := List.mem_of_getElem? hsj
              have hkj := H2.out.klt _ hmj
              obtain ⟨y, rfl, hyb, yc⟩ := HR.out j (kj : Int) (by unfold ints; rw [List.getElem?_map, List.getElem?_map, hsj]; rfl)
              have lk := looki_in HO.out HD.out hkj hmj
              have hh := H2.out.gx.has kj hkj
              rw [decide_eq_true (List.mem_map.2 ⟨_, hmj, rfl⟩)] at hh
              have HH := Lib.hid hh
              have HSJ := Lib.hid hsj
              have wj := IntWalk.i64_in ((j : Int) + 1) (by have := H2.out.len; have := H2.out.mb; omega)
              clear hh hsj hmj hkj
              by_cases hj0 : j = 0
              · have hjn : ¬ (0 : Int) < (j : Int) := by omega
                clear hj0
                go_wp2_with fail
                refine HH.out.mono ?_
                rintro e wl3 ⟨rfl, rfl⟩
                go_wp2_with fail
                go_roundw
                case rel => exact ⟨j + 1, by omega, by go_num, trivial⟩
                case measure => simp [intOf]; omega
              · obtain ⟨j', hj'⟩ : ∃ j', j = j' + 1 := ⟨j - 1, by omega⟩
                have hjp : (0 : Int) < (j : Int) := by omega
                have wsub : IntKind.i64.wrap ((j : Int) - 1) = (j' : Int) := by rw [IntWalk.i64_in _ (by have := H2.out.len; have := H2.out.mb; omega)]; omega
                have hjl2 : (j' : Int) < (S'.length : Int) := by omega
                obtain ⟨kj2, tj2, hsj2⟩ : ∃ kj tj, S'[j']? = some (kj, tj) := ⟨_, _, List.getElem?_eq_getElem (by omega)⟩
                have hmj2 : (kj2, tj2) ∈ S' := List.mem_of_getElem? hsj2
                have hkj2 := H2.out.klt _ hmj2
                obtain ⟨y', hy', hyb', yc'⟩ := HR.out j' (kj2 : Int) (by unfold ints; rw [List.getElem?_map, List.getElem?_map, hsj2]; rfl)
                cases hy'
                have lk2 := looki_one HO.out HD.out hkj2 hmj2
                have hdd : ¬ (tj2 : Int) ≤ (tj : Int) := by
                  have hp := List.pairwise_iff_getElem.1 H2.out.dec j' j (by omega) hjl (by omega)
                  obtain ⟨e1, e2⟩ := List.getElem?_eq_some_iff.1 hsj2
                  obtain ⟨e3, e4⟩ := List.getElem?_eq_some_iff.1 HSJ.out
                  rw [e2, e4] at hp
                  simp only at hp
                  omega
                have HJ' := Lib.hid hj'
                clear hj' hsj2 hmj2 hkj2 hj0
                go_wp2_with fail
                refine HH.out.mono ?_
                rintro e wl3 ⟨rfl, rfl⟩
                go_wp2_with fail
                go_roundw
                case rel => exact ⟨j + 1, by omega, by go_num, trivial⟩
                case measure => simp [intOf]; omega
            · obtain rfl : j = S'.length := by omega
              clear hj hjl
              go_wp2_with fail
              go_roundw
              case rel => exact ⟨i + 1, mst, S', by have := HLT.out; omega, by go_num, H2⟩
              case measure => have := HLT.out; simp [intOf]; omega
    · obtain rfl : i = len := by omega
      have HKN := Lib.hid (HK0.out wr H.out.gx.bl)
      have HBL := Lib.hid H.out.gx.bl
      clear hi hlt
      go_wp2_with fail
      refine HKN.out.mono ?_
      rintro e u ⟨rfl, bl⟩
      go_wp2_with fail
      have hs := HBL.out.size
      refine bodyPost_ret (v := .bool true) (by simp [results, Try.results13, go_sem]) rfl ⟨rfl, ?_⟩
      exact ((Kp.of (bad := fun _ => False) HBL.out).tr bl).below (fun k hk h => h) (Nat.le_refl _)
set_option maxRecDepth 100000 in
set_option maxHeartbeats 16000000 in
theorem lholds_any {w : World} {n : Int} {a : Option Addr} {len cap : Nat} {f0 f1 f2 : Nat → Int} (hacts : Ac3 w.heap.size w a len f0 f1 f2) (HK : ∀ v, Below w.heap.size w v → Calls Try.prog 56 #[] v fun e w' => e = .returned (.bool true) ∧ Below v.heap.size v w') :
    Calls Try.prog 13 #[.int .i64 n, .slice a len cap] w fun e w' => e = .returned (.bool true) ∧ Below w.heap.size w w' := by
  by_cases hc : 0 ≤ n ∧ n ≤ 40 ∧ len ≤ 100
  · obtain ⟨M, rfl⟩ := Int.eq_ofNat_of_zero_le (show 0 ≤ n by omega)
    exact gholds_any hacts (by omega) (by omega) HK
  · have HKN := Lib.hid (HK w (Below.refl _ _))
    have hd : n < 0 ∨ (¬ n < 0 ∧ 40 < n) ∨ (¬ n < 0 ∧ ¬ 40 < n ∧ 100 < (len : Int)) := by omega
    clear hc HK hacts
    rcases hd with h1 | ⟨h1, h2⟩ | ⟨h1, h2, h3⟩
    all_goals (
      go_enter Try.func13, Try.ntmps13
      go_wp2_with fail
      refine HKN.out.mono ?_
      rintro e u ⟨rfl, bl⟩
      go_wp2_with fail
      exact bodyPost_ret (v := .bool true) (by simp [results, Try.results13, go_sem]) rfl ⟨rfl, bl⟩)
end Go.Proofs.Ytjcabdnjimcdgaa.Gho
