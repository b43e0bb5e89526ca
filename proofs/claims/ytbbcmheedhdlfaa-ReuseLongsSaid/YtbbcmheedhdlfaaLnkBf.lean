/-
  Links (layer 14): Join, the walk.
-/
import Derived.Test.YtbbcmheedhdlfaaLnkBe
set_option linter.unusedVariables false
set_option linter.unusedSimpArgs false
namespace Go.Proofs.Ytbbcmheedhdlfaa.Lnk
open Go Go.RowKit Kit
section
variable {w : World} {c q r cq cr N : Nat} {F : Fd} {Ls : List (List Nat)}
set_option maxRecDepth 100000 in
set_option maxHeartbeats 2000000 in
theorem Join_ok (H : Lo w c q r cq cr N F Ls) {a b x : Nat} {La' Lb : List Nat} (ha : Ls[a]? = some (x :: La')) (hb : Ls[b]? = some Lb) (hab : a ≠ b) :
    Calls Try.prog 56 #[.pointer (some ⟨c, 0, none⟩), .int .i64 (a : Int), .int .i64 (b : Int)] w fun e w' => e = .returned (.int .i64 0) ∧ Lo w' c q r cq cr N (joinF F (N + a) (N + b) b x (lst (N + b) Lb) (lst (N + a) (x :: La')) (x :: La')) ((Ls.set b (Lb ++ x :: La')).set a []) ∧ Kp (Ob c q r) w w' := by
  have hal := (List.getElem?_eq_some_iff.1 ha).1
  have hbl := (List.getElem?_eq_some_iff.1 hb).1
  have H1 := Lib.hid (checkHead_ok H hal)
  have H2 := Lib.hid (checkHead_ok H hbl)
  have R1 := Lib.hid (fun (v : World) F' Ls' (h : Lo v c q r cq cr N F' Ls') (hl : a < Ls'.length) => root_any h hl)
  obtain ⟨k0, k1, k2⟩ := H.cells
  obtain ⟨l0, g0⟩ := H.lw.at_ ha
  obtain ⟨l1, g1⟩ := H.lw.at_ hb
  obtain ⟨La, hLa⟩ : ∃ La, x :: La' = La := ⟨_, rfl⟩
  obtain ⟨m, hm⟩ : ∃ m, La.length = m := ⟨_, rfl⟩
  have hm0 : ((m : Int) == 0) = false := by rw [beq_eq_false_iff_ne, ← hm, ← hLa]; simp; omega
  rw [hLa, hm] at l0
  have hne : ((a : Int) == (b : Int)) = false := by rw [beq_eq_false_iff_ne]; omega
  have i1 : (a : Int) < (Ls.length : Int) := by omega
  have i0 : (0 : Int) ≤ (a : Int) := by omega
  have HH := Lib.hid H
  have RA := Lib.hid (root_any H hal)
  have RB := Lib.hid (root_any H hbl)
  obtain ⟨ra, hra⟩ : ∃ ra, N + a = ra := ⟨_, rfl⟩
  obtain ⟨rb, hrb⟩ : ∃ rb, N + b = rb := ⟨_, rfl⟩
  obtain ⟨M, hM⟩ : ∃ M, N + Ls.length = M := ⟨_, rfl⟩
  have hfa := HH.out.fw.at_ (i := N + a) (by omega)
  have hca : F.nx (N + a) = x := (HH.out.ring.ch a _ ha).1
  have hpa : F.pv (N + a) = lst (N + a) (x :: La') := (HH.out.ring.ch a _ ha).last
  rw [hca, hpa] at hfa
  obtain ⟨z, hz⟩ : ∃ z, lst (N + a) (x :: La') = z := ⟨_, rfl⟩
  obtain ⟨ez, hez⟩ : ∃ ez, lst (N + b) Lb = ez := ⟨_, rfl⟩
  rw [hz] at hfa ⊢
  rw [hez]
  rw [hra] at hfa ⊢
  rw [hrb]
  have RA' := RA.out
  have RB' := RB.out
  rw [hra] at RA'
  rw [hrb] at RB'
  have RA := Lib.hid RA'
  have RB := Lib.hid RB'
  clear RA' RB'
  rw [hM] at k1
  have HRA := Lib.hid hra
  have HRB := Lib.hid hrb
  have HM := Lib.hid hM
  have HZ := Lib.hid hz
  have HEZ := Lib.hid hez
  obtain ⟨e0, e1, e2⟩ := hfa
  have j1 : (ra : Int) < (M : Int) := by omega
  have j0 : (0 : Int) ≤ (ra : Int) := by omega
  clear hra hrb hM hz hez hca hpa e2
  clear H
  go_enter Try.func56, Try.ntmps56
  go_wp2_with fail
  refine H1.out.mono ?_
  rintro e w1 ⟨rfl, rfl⟩
  go_wp2_with fail
  refine H2.out.mono ?_
  rintro e w1 ⟨rfl, rfl⟩
  go_wp2_with fail
  refine RA.out.mono ?_
  rintro e w1 ⟨rfl, rfl⟩
  go_wp2_with fail
  refine RB.out.mono ?_
  rintro e w1 ⟨rfl, rfl⟩
  have SC := Lib.hid (fun (v : World) (hb : Below w.heap.size w v) => (show v.cell? ⟨c, 1, none⟩ = some (.slice (some ⟨q, 0, none⟩) M cq) ∧ v.cell? ⟨q, ra * 3, none⟩ = some (.int .u32 (z : Int)) ∧ v.cell? ⟨q, ra * 3 + 1, none⟩ = some (.int .u32 (x : Int)) from ⟨(hb.cell (p := ⟨c, 1, none⟩) HH.out.lt.1).trans k1, (hb.cell (p := ⟨q, ra * 3, none⟩) HH.out.lt.2.1).trans e0, (hb.cell (p := ⟨q, ra * 3 + 1, none⟩) HH.out.lt.2.1).trans e1⟩))
  go_wp2_with fail
  go_region_held3 (fun v => v.cell? ⟨c, 1, none⟩ = some (.slice (some ⟨q, 0, none⟩) M cq) ∧ v.cell? ⟨q, ra * 3, none⟩ = some (.int .u32 (z : Int)) ∧ v.cell? ⟨q, ra * 3 + 1, none⟩ = some (.int .u32 (x : Int)))
    (first
      | (exact SC.out _ (Below.drew (Below.refl _ _)))
      | assumption
      | fail)
    (first | fail)
  have hL := HH.out.below (Below.drew (Below.refl w.heap.size w))
  have hJ : Jk w w.drew c q r cq cr N M (hdF F (La.take 0) b) Ls := ⟨rfl, by rw [List.take_zero, hdF_nil, ← HM.out]; exact hL.fw, hL.lw, Kp.of (Below.drew (Below.refl w.heap.size w))⟩
  obtain ⟨w1, hw1⟩ : ∃ w1, w.drew = w1 := ⟨_, rfl⟩
  rw [hw1] at hJ ⊢
  have HJ := Lib.hid hJ
  have HL0 := Lib.hid (show fst (La.drop 0) ra = x from by rw [← hLa]; rfl)
  clear hL hJ hw1 e0 e1 SC
  have wb := by have h2 := HH.out.h2; exact IntWalk.i32_in (b : Int) (by omega)
  have HAT := Lib.hid (fun (k y : Nat) (hy : La[k]? = some y) => (show y < N ∧ F.nx y = fst (La.drop (k + 1)) ra from ⟨(HH.out.ring.mem a _ y ha (by rw [hLa]; exact List.mem_of_getElem? hy)).1, by rw [← HRA.out]; exact HH.out.ring.at_ (l := La) (by rw [← hLa]; exact ha) hy⟩))
  have HLM := Lib.hid hm
  have HOB := Lib.hid (show w.heap[c]? = some (.cells #[.int .i64 (N : Int), .slice (some ⟨q, 0, none⟩) M cq, .slice (some ⟨r, 0, none⟩) Ls.length cr] 92 (0, 0)) from by rw [← HM.out]; exact HH.out.obj)
  have hcq := HH.out.cq
  have hqr := HH.out.qr
  have hNM : N ≤ ra ∧ ra < M := by have := HRA.out; have := HM.out; omega
  clear hm
  go_wp2_with fail
  go_loopg [13] m (fun g v wr => ∃ k, k + g = m ∧ v = .int .u32 ((fst (La.drop k) ra : Nat) : Int) ∧ Jk w wr c q r cq cr N M (hdF F (La.take k) b) Ls)
  case atStart => exact ⟨0, by omega, by rw [HL0.out], HJ.out⟩
  case round =>
    obtain ⟨k, hk, rfl, hj⟩ := hrel
    have HJ := Lib.hid hj
    have hob := hj.obj.trans HOB.out
    have x1 : wr.cell? ⟨c, 1, none⟩ = some (.slice (some ⟨q, 0, none⟩) M cq) := by simp [World.cell?, hob]
    clear hj
    by_cases hkm : k = m
    · have hf : fst (La.drop k) ra = ra := by rw [List.drop_of_length_le (by rw [HLM.out]; omega)]; rfl
      rw [hf]
      have hpb : F.pv (N + b) = ez := by rw [← HEZ.out]; exact (HH.out.ring.ch b _ hb).last
      rw [HRB.out] at hpb
      have hrbM : rb < M := by have := HRB.out; have := HM.out; omega
      obtain ⟨e3, _, _⟩ := HJ.out.fw.at_ (i := rb) hrbM
      rw [show (hdF F (La.take k) b).pv rb = F.pv rb from rfl, hpb] at e3
      have b1 : (rb : Int) < (M : Int) := by omega
      have b0 : (0 : Int) ≤ (rb : Int) := by omega
      have hez : ez < M := by
        have hM := HM.out
        have := HRB.out
        rcases lst_mem (a := N + b) (l := Lb) with h | h
        · rw [HEZ.out] at h; omega
        · rw [HEZ.out] at h; have := (HH.out.ring.mem b _ ez hb h).1; omega
      have hxM : x < M := by have := (HH.out.ring.mem a _ x ha (by simp)).1; omega
      have q1 : (ez : Int) < (M : Int) := by omega
      have q0 : (0 : Int) ≤ (ez : Int) := by omega
      have p1 : (x : Int) < (M : Int) := by omega
      have p0 : (0 : Int) ≤ (x : Int) := by omega
      have hJd := HJ.out
      obtain ⟨_, s1, _⟩ := hJd.fw.at_ (i := ez) hez
      obtain ⟨s2, _, _⟩ := hJd.fw.at_ (i := x) hxM
      have z1 := hJd.fw.frozen (ez * 3 + 1)
      have z2 := hJd.fw.frozen (x * 3)
      have hfw1 := hJd.fw.setN ez x
      obtain ⟨s3, _, _⟩ := hfw1.at_ (i := x) hxM
      have z3 := hfw1.frozen (x * 3)
      have hc2 := (Below.heap_setCell wr ⟨q, ez * 3 + 1, none⟩ (.int .u32 (x : Int)) c hcq).trans hJd.obj
      have x3 : (wr.setCell ⟨q, ez * 3 + 1, none⟩ (.int .u32 (x : Int))).cell? ⟨c, 1, none⟩ = some (.slice (some ⟨q, 0, none⟩) M cq) := by have := hc2.trans HOB.out; simp [World.cell?, this]
      have hfw2 := hfw1.setP x ez
      have hc3 := (Below.heap_setCell (wr.setCell ⟨q, ez * 3 + 1, none⟩ (.int .u32 (x : Int))) ⟨q, x * 3, none⟩ (.int .u32 (ez : Int)) c hcq).trans hc2
      have HJ2 := Lib.hid (show Jk w ((wr.setCell ⟨q, ez * 3 + 1, none⟩ (.int .u32 (x : Int))).setCell ⟨q, x * 3, none⟩ (.int .u32 (ez : Int))) c q r cq cr N M (((hdF F (La.take k) b).upN ez x).upP x ez) Ls from ⟨hc3, hfw2, (hJd.lw.of (Below.heap_setCell _ _ _ r (by show r ≠ q; omega))).of (Below.heap_setCell _ _ _ r (by show r ≠ q; omega)), (hJd.kp.setCell (.inl (.inr (.inl rfl))) _).setCell (.inl (.inr (.inl rfl))) _⟩)
      have hgw1 := hJd.fw.setP x ez
      obtain ⟨_, s4, _⟩ := hgw1.at_ (i := ez) hez
      have z4 := hgw1.frozen (ez * 3 + 1)
      have hd2 := (Below.heap_setCell wr ⟨q, x * 3, none⟩ (.int .u32 (ez : Int)) c hcq).trans hJd.obj
      have x4 : (wr.setCell ⟨q, x * 3, none⟩ (.int .u32 (ez : Int))).cell? ⟨c, 1, none⟩ = some (.slice (some ⟨q, 0, none⟩) M cq) := by have := hd2.trans HOB.out; simp [World.cell?, this]
      clear hob hpb hJd hfw1 hc2 hfw2 hc3 hgw1 hd2
      go_wp2_with fail
      go_region_with fail
      all_goals clear s1 s2 z1 z2 s3 z3 x3 s4 z4 x4 e3
      all_goals (
        obtain ⟨v1, hv1⟩ : ∃ v1, ((wr.setCell ⟨q, ez * 3 + 1, none⟩ (.int .u32 (x : Int))).setCell ⟨q, x * 3, none⟩ (.int .u32 (ez : Int))).drew = v1 := ⟨_, rfl⟩
        have hk1 : Jk w v1 c q r cq cr N M (((hdF F (La.take k) b).upN ez x).upP x ez) Ls := by
          rw [← hv1]
          exact ⟨HJ2.out.obj, HJ2.out.fw, HJ2.out.lw, HJ2.out.kp.tr (Below.drew (Below.refl _ _))⟩
        rw [hv1]
        clear hv1
        have K1 := Lib.hid hk1
        have hob1 := hk1.obj.trans HOB.out
        have y1 : v1.cell? ⟨c, 1, none⟩ = some (.slice (some ⟨q, 0, none⟩) M cq) := by simp [World.cell?, hob1]
        have y2 : v1.cell? ⟨c, 2, none⟩ = some (.slice (some ⟨r, 0, none⟩) Ls.length cr) := by simp [World.cell?, hob1]
        have hzM : z < M := by have := (HH.out.ring.mem a _ z ha (by rw [← HZ.out]; exact lst_in _ _ (by simp))).1; omega
        have d1 : (z : Int) < (M : Int) := by omega
        have d0 : (0 : Int) ≤ (z : Int) := by omega
        obtain ⟨_, s1, _⟩ := hk1.fw.at_ (i := z) hzM
        obtain ⟨s2, _, _⟩ := hk1.fw.at_ (i := rb) hrbM
        have z1 := hk1.fw.frozen (z * 3 + 1)
        have z2 := hk1.fw.frozen (rb * 3)
        have hfw1 := hk1.fw.setN z rb
        obtain ⟨s3, _, _⟩ := hfw1.at_ (i := rb) hrbM
        have z3 := hfw1.frozen (rb * 3)
        have hc2 := (Below.heap_setCell v1 ⟨q, z * 3 + 1, none⟩ (.int .u32 (rb : Int)) c hcq).trans hk1.obj
        have x3 : (v1.setCell ⟨q, z * 3 + 1, none⟩ (.int .u32 (rb : Int))).cell? ⟨c, 1, none⟩ = some (.slice (some ⟨q, 0, none⟩) M cq) := by have := hc2.trans HOB.out; simp [World.cell?, this]
        have hfw2 := hfw1.setP rb z
        have hc3 := (Below.heap_setCell (v1.setCell ⟨q, z * 3 + 1, none⟩ (.int .u32 (rb : Int))) ⟨q, rb * 3, none⟩ (.int .u32 (z : Int)) c hcq).trans hc2
        have HJ3 := Lib.hid (show Jk w ((v1.setCell ⟨q, z * 3 + 1, none⟩ (.int .u32 (rb : Int))).setCell ⟨q, rb * 3, none⟩ (.int .u32 (z : Int))) c q r cq cr N M (((((hdF F (La.take k) b).upN ez x).upP x ez).upN z rb).upP rb z) Ls from ⟨hc3, hfw2, (hk1.lw.of (Below.heap_setCell _ _ _ r (by show r ≠ q; omega))).of (Below.heap_setCell _ _ _ r (by show r ≠ q; omega)), (hk1.kp.setCell (.inl (.inr (.inl rfl))) _).setCell (.inl (.inr (.inl rfl))) _⟩)
        have hgw1 := hk1.fw.setP rb z
        obtain ⟨_, s4, _⟩ := hgw1.at_ (i := z) hzM
        have z4 := hgw1.frozen (z * 3 + 1)
        have hd2 := (Below.heap_setCell v1 ⟨q, rb * 3, none⟩ (.int .u32 (z : Int)) c hcq).trans hk1.obj
        have x4 : (v1.setCell ⟨q, rb * 3, none⟩ (.int .u32 (z : Int))).cell? ⟨c, 1, none⟩ = some (.slice (some ⟨q, 0, none⟩) M cq) := by have := hd2.trans HOB.out; simp [World.cell?, this]
        clear hob1 x1 hk1 hfw1 hc2 hfw2 hc3 hgw1 hd2
        go_wp2_with fail
        go_region_with fail
        all_goals (
          clear s1 s2 z1 z2 s3 z3 x3 s4 z4 x4
          obtain ⟨v2, hv2⟩ : ∃ v2, ((v1.setCell ⟨q, z * 3 + 1, none⟩ (.int .u32 (rb : Int))).setCell ⟨q, rb * 3, none⟩ (.int .u32 (z : Int))).drew = v2 := ⟨_, rfl⟩
          have hk2 : Jk w v2 c q r cq cr N M (((((hdF F (La.take k) b).upN ez x).upP x ez).upN z rb).upP rb z) Ls := by
            rw [← hv2]
            exact ⟨HJ3.out.obj, HJ3.out.fw, HJ3.out.lw, HJ3.out.kp.tr (Below.drew (Below.refl _ _))⟩
          rw [hv2]
          clear hv2 y1 y2
          have K2 := Lib.hid hk2
          have hob2 := hk2.obj.trans HOB.out
          have y1 : v2.cell? ⟨c, 1, none⟩ = some (.slice (some ⟨q, 0, none⟩) M cq) := by simp [World.cell?, hob2]
          have y2 : v2.cell? ⟨c, 2, none⟩ = some (.slice (some ⟨r, 0, none⟩) Ls.length cr) := by simp [World.cell?, hob2]
          obtain ⟨lb, hlb⟩ : ∃ lb, Lb.length = lb := ⟨_, rfl⟩
          have HLB := Lib.hid hlb
          have hlla : m ≤ 4194304 := by have := HH.out.len_le ha; rw [hLa, HLM.out] at this; exact this
          have hllb : lb ≤ 4194304 := by have := HH.out.len_le hb; rw [hlb] at this; exact this
          have ws : IntKind.i64.wrap ((lb : Int) + (m : Int)) = ((lb + m : Nat) : Int) := by rw [IntWalk.i64_in _ (by omega)]; omega
          have c1 : (b : Int) < (Ls.length : Int) := by omega
          have c0 : (0 : Int) ≤ (b : Int) := by omega
          obtain ⟨n0, _⟩ := hk2.lw.at_ ha
          rw [hLa, HLM.out] at n0
          obtain ⟨n1, _⟩ := hk2.lw.at_ hb
          rw [hlb] at n1
          have KD := Lib.hid (show Jk w v2.drew c q r cq cr N M (((((hdF F (La.take k) b).upN ez x).upP x ez).upN z rb).upP rb z) Ls from ⟨hk2.obj, hk2.fw, hk2.lw, hk2.kp.tr (Below.drew (Below.refl v2.heap.size v2))⟩)
          clear hob2 hk2 hlb l0 l1 g0 g1
          go_wp2_with fail
          go_still_tail 16, (by kernel_rfl)
          change wpList _ _ _ _ _ v2.drew
          generalize v2.drew = v3 at *
          clear y1 y2 n0 n1
          have hob3 := KD.out.obj.trans HOB.out
          have y1 : v3.cell? ⟨c, 1, none⟩ = some (.slice (some ⟨q, 0, none⟩) M cq) := by simp [World.cell?, hob3]
          have y2 : v3.cell? ⟨c, 2, none⟩ = some (.slice (some ⟨r, 0, none⟩) Ls.length cr) := by simp [World.cell?, hob3]
          obtain ⟨n0, _⟩ := KD.out.lw.at_ ha
          rw [hLa, HLM.out] at n0
          obtain ⟨n1, n2⟩ := KD.out.lw.at_ hb
          rw [HLB.out] at n1
          have RO := Lib.hid (jk_raw KD.out HM.out HOB.out hcq hqr HH.out.cr HH.out.n1 HH.out.n2 HH.out.h2 hbl (Lb ++ La) (by rw [List.length_append, HLB.out, HLM.out]))
          have KP4 := Lib.hid (KD.out.kp.setCell (b := r) (j := b) (.inl (.inr (.inr rfl))) (.int .i64 ((lb + m : Nat) : Int)))
          clear hob3
          go_wp2_with fail
          refine (clear_any RO.out hal).mono ?_
          rintro e v5 ⟨rfl, r5, k5⟩
          have R5 := Lib.hid r5
          have K5 := Lib.hid (KP4.out.trans k5)
          clear r5 k5
          go_wp2_with fail
          go_ret
          refine ⟨rfl, ?_, K5.out⟩
          exact join_end HH.out ha hb hab hLa (List.take_of_length_le (by rw [HLM.out]; omega)) HRA.out HRB.out HZ.out HEZ.out R5.out))
    · obtain ⟨y, hy⟩ : ∃ y, La[k]? = some y := ⟨La[k]'(by rw [HLM.out]; omega), List.getElem?_eq_getElem _⟩
      obtain ⟨hyN, hyn⟩ := HAT.out k y hy
      rw [fst_drop hy]
      have hne1 : ((y : Int) != (ra : Int)) = true := by rw [bne_iff_ne]; omega
      have hne2 : ((y : Int) == (ra : Int)) = false := by rw [beq_eq_false_iff_ne]; omega
      have i3 : (y : Int) < (M : Int) := by omega
      have i4 : (0 : Int) ≤ (y : Int) := by omega
      obtain ⟨_, e1, e2⟩ := HJ.out.fw.at_ (i := y) (by omega)
      rw [show (hdF F (La.take k) b).nx y = F.nx y from rfl, hyn] at e1
      have fz := HJ.out.fw.frozen (y * 3 + 2)
      have HUP := Lib.hid (hdF_up F La b k y hy)
      have hfw := HJ.out.fw.setH y (b : Int)
      have hc2 := (Below.heap_setCell wr ⟨q, y * 3 + 2, none⟩ (.int .i32 (b : Int)) c hcq).trans HJ.out.obj
      have x2 : (wr.setCell ⟨q, y * 3 + 2, none⟩ (.int .i32 (b : Int))).cell? ⟨c, 1, none⟩ = some (.slice (some ⟨q, 0, none⟩) M cq) := by have := hc2.trans HOB.out; simp [World.cell?, this]
      obtain ⟨_, e3, _⟩ := hfw.at_ (i := y) (by omega)
      rw [show ((hdF F (La.take k) b).upH y (b : Int)).nx y = F.nx y from rfl, hyn] at e3
      have HJ2 := Lib.hid (show Jk w (wr.setCell ⟨q, y * 3 + 2, none⟩ (.int .i32 (b : Int))) c q r cq cr N M (hdF F (La.take (k + 1)) b) Ls from ⟨hc2, by rw [← HUP.out]; exact hfw, HJ.out.lw.of (Below.heap_setCell _ _ _ r (by show r ≠ q; omega)), HJ.out.kp.setCell (.inl (.inr (.inl rfl))) _⟩)
      clear hfw hc2 hob hy hyn
      go_wp2_with fail
      go_roundg (m - (k + 1))
      case measure => omega
      case rel => exact ⟨k + 1, by omega, rfl, HJ2.out⟩
end
end Go.Proofs.Ytbbcmheedhdlfaa.Lnk
