/-
  Links (layer 14): Front, Back.
-/
import Derived.Test.YtggimkfepcgaoaaLnkH
import Derived.StillTailTactics
set_option linter.unusedVariables false
set_option linter.unusedSimpArgs false
section
namespace Go.Proofs.Ytggimkfepcgaoaa.Lnk
open Go Go.RowKit Kit
section
variable {w : World} {c q r cq cr N : Nat} {F : Fd} {Ls : List (List Nat)}
theorem back1_any (x : Int) (w : World) : Calls Try.prog 86 #[.int .u32 x] w fun e v => e = .returned (.int .u32 x) ∧ Below w.heap.size w v := by
  go_enter Try.func86, Try.ntmps86
  go_wp2_with fail
  go_ret
  exact ⟨rfl, Below.refl _ _⟩
theorem front1_any (H : Lo w c q r cq cr N F Ls) {h : Nat} {l : List Nat} (hl : Ls[h]? = some l) {g : Nat} {t : TypeId} (hg : w.heap[g]? = some (.cells #[.pointer (some ⟨c, 0, none⟩)] t (0, 0))) :
    Calls Try.prog 90 #[.int .u32 ((N + h : Nat) : Int), .pointer (some ⟨g, 0, none⟩)] w fun e v => e = .returned (.int .u32 ((fst l (N + h) : Nat) : Int)) ∧ Below w.heap.size w v := by
  have hh := (List.getElem?_eq_some_iff.1 hl).1
  have hc := (H.ring.ch h l hl).first
  obtain ⟨k0, k1, k2⟩ := H.cells
  obtain ⟨e0, e1, e2⟩ := H.fw.at_ (i := N + h) (by omega)
  rw [hc] at e1
  have g0 : w.cell? ⟨g, 0, none⟩ = some (.pointer (some ⟨c, 0, none⟩)) := by simp [World.cell?, hg]
  have i1 : ((N + h : Nat) : Int) < (N : Int) + (Ls.length : Int) := by omega
  have i2 : ((N + h : Nat) : Int) < ((N + Ls.length : Nat) : Int) := by omega
  have i3 : (0 : Int) ≤ ((N + h : Nat) : Int) := by omega
  generalize fst l (N + h) = x at *
  obtain ⟨M, hM⟩ : ∃ M, N + h = M := ⟨_, rfl⟩
  rw [hM] at i1 i2 i3 e1 ⊢
  clear H hc hl hg hM e0 e2
  go_enter Try.func90, Try.ntmps90
  go_wp2_with fail
  go_ret
  exact ⟨rfl, Below.refl _ _⟩
set_option maxRecDepth 100000 in
theorem Back_ok (H : Lo w c q r cq cr N F Ls) {h n : Nat} {l : List Nat} (hl : Ls[h]? = some l) (hn : n < N) (hf : Free Ls n) :
    Calls Try.prog 21 #[.pointer (some ⟨c, 0, none⟩), .int .i64 (h : Int), .int .u32 (n : Int)] w fun e w' => e = .returned (.int .i64 0) ∧ Lo w' c q r cq cr N (linkF F n (N + h)) (Ls.set h (l ++ [n])) ∧ Kp (Ob c q r) w w' := by
  have HA := Lib.hid (add_back H (l1 := l) (l2 := []) (by rw [List.append_nil]; exact hl) hn hf (o := N + h) rfl (fun w' hb => back1_any _ w'))
  clear H hl hf
  go_enter Try.func21, Try.ntmps21
  go_wp2_with fail
  refine HA.out.mono ?_
  rintro e w1 ⟨rfl, h1, k1⟩
  have H1 := Lib.hid h1
  have K1 := Lib.hid k1
  clear h1 k1
  go_wp2_with fail
  go_ret
  exact ⟨rfl, H1.out, K1.out⟩
set_option maxRecDepth 100000 in
theorem Front_ok (H : Lo w c q r cq cr N F Ls) {h n : Nat} {l : List Nat} (hl : Ls[h]? = some l) (hn : n < N) (hf : Free Ls n) :
    Calls Try.prog 24 #[.pointer (some ⟨c, 0, none⟩), .int .i64 (h : Int), .int .u32 (n : Int)] w fun e w' => e = .returned (.int .i64 0) ∧ Lo w' c q r cq cr N (linkF F n (fst l (N + h))) (Ls.set h (n :: l)) ∧ Kp (Ob c q r) w w' := by
  have HB := Lib.hid (box_below w #[.pointer (some ⟨c, 0, none⟩)] 28)
  have HA := Lib.hid (add_front (H.below HB.out) (l1 := []) (l2 := l) w.heap.size hl hn hf (o := fst l (N + h)) rfl (fun w' hb => front1_any ((H.below HB.out).below hb) hl ((hb.block _ (by simp)).trans (one_block w _ 28))))
  clear H hl hf
  go_enter Try.func24, Try.ntmps24
  go_wp2_with fail
  refine HA.out.mono ?_
  rintro e w1 ⟨rfl, h1, k1⟩
  have H1 := Lib.hid h1
  have K1 := Lib.hid ((Kp.of HB.out).trans k1)
  clear h1 k1
  go_wp2_with fail
  go_ret
  exact ⟨rfl, H1.out, K1.out⟩
end
end Go.Proofs.Ytggimkfepcgaoaa.Lnk
end
section
namespace Go.Proofs.Ytggimkfepcgaoaa.Lnk
open Go Go.RowKit Kit
section
variable {w : World} {c q r cq cr N : Nat} {F : Fd} {Ls : List (List Nat)}
set_option maxRecDepth 100000 in
theorem Remove_bad (H : Lo w c q r cq cr N F Ls) {n : Int} (n0 : (N : Int) ≤ n) (n1 : n < 4294967296) :
    Calls Try.prog 23 #[.pointer (some ⟨c, 0, none⟩), .int .u32 n] w fun e w' => e = .returned (.int .i64 2) ∧ Below w.heap.size w w' := by
  have H1 := Lib.hid (Of_bad H n0 n1)
  clear H
  go_enter Try.func23, Try.ntmps23
  go_wp2_with fail
  refine H1.out.mono ?_
  rintro e w1 ⟨rfl, b1⟩
  have B1 := Lib.hid b1
  clear b1
  go_wp2_with fail
  go_ret
  exact ⟨rfl, B1.out⟩
set_option maxRecDepth 100000 in
theorem Remove_free (H : Lo w c q r cq cr N F Ls) {n : Nat} (n0 : n < N) (hf : F.hd n = -1) :
    Calls Try.prog 23 #[.pointer (some ⟨c, 0, none⟩), .int .u32 (n : Int)] w fun e w' => e = .returned (.int .i64 9) ∧ Below w.heap.size w w' := by
  have H1 := Of_in H n0 hf
  rw [if_pos rfl] at H1
  have H1 := Lib.hid H1
  clear H
  go_enter Try.func23, Try.ntmps23
  go_wp2_with fail
  refine H1.out.mono ?_
  rintro e w1 ⟨rfl, b1⟩
  have B1 := Lib.hid b1
  clear b1
  go_wp2_with fail
  go_ret
  exact ⟨rfl, B1.out⟩
theorem obj_cells {w : World} {c q r cq cr M H N : Nat} (h1 : w.heap[c]? = some (.cells #[.int .i64 (N : Int), .slice (some ⟨q, 0, none⟩) M cq, .slice (some ⟨r, 0, none⟩) H cr] 127 (0, 0))) : w.cell? ⟨c, 0, none⟩ = some (.int .i64 (N : Int)) ∧ w.cell? ⟨c, 1, none⟩ = some (.slice (some ⟨q, 0, none⟩) M cq) ∧ w.cell? ⟨c, 2, none⟩ = some (.slice (some ⟨r, 0, none⟩) H cr) :=
  ⟨by simp [World.cell?, h1], by simp [World.cell?, h1], by simp [World.cell?, h1]⟩
set_option maxRecDepth 100000 in
set_option maxHeartbeats 2000000 in
theorem Remove_ok (H : Lo w c q r cq cr N F Ls) {h n : Nat} {l1 l2 : List Nat} (hl : Ls[h]? = some (l1 ++ n :: l2)) :
    Calls Try.prog 23 #[.pointer (some ⟨c, 0, none⟩), .int .u32 (n : Int)] w fun e w' => e = .returned (.int .i64 0) ∧ Lo w' c q r cq cr N (unlinkF F n) (Ls.set h (l1 ++ l2)) ∧ Kp (Ob c q r) w w' := by
  have hk := (List.getElem?_eq_some_iff.1 hl).1
  have hm := H.ring.mem h _ n hl (by simp)
  have hn := hm.1
  have hR := H.ring.unlink hl
  have hll := H.len_le hl
  have hnd := H.ring.nodup h _ hl
  obtain ⟨_, _, hp, hs⟩ := H.ring.parts hl
  have hpn : lst (N + h) l1 ≠ n ∧ lst (N + h) l1 < N + Ls.length := by
    rcases lst_mem (a := N + h) (l := l1) with h2 | h2
    · rw [h2]; omega
    · have h3 := (H.ring.mem h _ _ hl (List.mem_append_left _ h2)).1
      exact ⟨fun he => (List.nodup_append.1 hnd).2.2 _ h2 n (by simp) he, by omega⟩
  have hsn : fst l2 (N + h) ≠ n ∧ fst l2 (N + h) < N + Ls.length := by
    cases l2 with
    | nil => show N + h ≠ n ∧ N + h < _; omega
    | cons y l2 =>
      show y ≠ n ∧ y < _
      have h3 := (H.ring.mem h _ y hl (by simp)).1
      refine ⟨fun he => ?_, by omega⟩
      have h4 := (List.nodup_append.1 hnd).2.1
      rw [List.nodup_cons] at h4
      exact h4.1 (by rw [← he]; simp)
  rw [← hp] at hpn
  rw [← hs] at hsn
  obtain ⟨p, hpe⟩ : ∃ p, F.pv n = p := ⟨_, rfl⟩
  obtain ⟨s, hse⟩ : ∃ s, F.nx n = s := ⟨_, rfl⟩
  rw [hpe] at hpn
  rw [hse] at hsn
  have n2 := H.n2
  have h2 := H.h2
  have H1 := Of_in H hn hm.2
  rw [if_neg (by omega)] at H1
  have H1 := Lib.hid H1
  have HD := Lib.hid (fun w' (hb : Below w.heap.size w w') => H.below hb)
  have HP := Lib.hid hpe
  have HSE := Lib.hid hse
  have RR := Lib.hid hR
  have HL := Lib.hid hl
  clear H hm hR hnd hp hs hpe hse hl
  obtain ⟨hpn, hpL⟩ := hpn
  obtain ⟨hsn, hsL⟩ := hsn
  have j1 : (n : Int) < (N : Int) + (Ls.length : Int) := by omega
  have j2 : (n : Int) < ((N + Ls.length : Nat) : Int) := by omega
  have j3 : (0 : Int) ≤ (n : Int) := by omega
  have p1 : (p : Int) < (N : Int) + (Ls.length : Int) := by omega
  have p2 : (p : Int) < ((N + Ls.length : Nat) : Int) := by omega
  have p3 : (0 : Int) ≤ (p : Int) := by omega
  have q1 : (s : Int) < (N : Int) + (Ls.length : Int) := by omega
  have q2 : (s : Int) < ((N + Ls.length : Nat) : Int) := by omega
  have q3 : (0 : Int) ≤ (s : Int) := by omega
  have r1 : (h : Int) < (Ls.length : Int) := by omega
  have r3 : (0 : Int) ≤ (h : Int) := by omega
  go_enter Try.func23, Try.ntmps23
  go_wp2_with fail
  refine H1.out.mono ?_
  rintro e v ⟨rfl, b1⟩
  have B1 := Lib.hid b1
  have HV := Lib.hid (HD.out _ b1)
  clear b1
  obtain ⟨k0, k1, k2⟩ := HV.out.cells
  have hcq := HV.out.cq
  have hqc := HV.out.cq.symm
  have hcr := HV.out.cr
  have hrc := HV.out.cr.symm
  have hqr := HV.out.qr
  have hrq := HV.out.qr.symm
  obtain ⟨e0, e1, e2⟩ := HV.out.fw.at_ (i := n) (by omega)
  rw [HP.out] at e0
  rw [HSE.out] at e1
  obtain ⟨_, a1, _⟩ := HV.out.fw.at_ hpL
  obtain ⟨b0, _, _⟩ := HV.out.fw.at_ hsL
  have f0 := HV.out.fw.frozen
  go_wp2_with fail
  have HVD := Lib.hid (HV.out.below (Below.drew (Below.refl v.heap.size v)))
  have KD := Lib.hid (Kp.of (bad := Ob c q r) (B1.out.trans ((Below.drew (Below.refl v.heap.size v)).mono B1.out.size)))
  go_still_tail 14, (by kernel_rfl)
  change wpList _ _ _ _ _ v.drew
  generalize v.drew = x at *
  clear k0 k1 k2 e0 e1 e2 a1 b0 f0
  have X1 := Lib.hid (HVD.out.fw.setN p s)
  have f0 := HVD.out.fw.frozen
  obtain ⟨_, a1, _⟩ := HVD.out.fw.at_ hpL
  go_wp2_with fail
  -- the second store
  have C1 := Lib.hid (show (x.setCell ⟨q, p * 3 + 1, none⟩ (.int .u32 (s : Int))).heap[c]? = x.heap[c]? from Below.heap_setCell _ _ _ c hcq)
  have R1 := Lib.hid (show (x.setCell ⟨q, p * 3 + 1, none⟩ (.int .u32 (s : Int))).heap[r]? = x.heap[r]? from Below.heap_setCell _ _ _ r hrq)
  have K1 := Lib.hid (KD.out.setCell (b := q) (j := p * 3 + 1) (.inl (.inr (.inl rfl))) (.int .u32 (s : Int)))
  have OBJ := Lib.hid HVD.out.obj
  have LW := Lib.hid HVD.out.lw
  clear a1 f0
  generalize x.setCell ⟨q, p * 3 + 1, none⟩ (.int .u32 (s : Int)) = y at *
  have OBJ := Lib.hid (C1.out.trans OBJ.out)
  have LW := Lib.hid (LW.out.of R1.out)
  obtain ⟨k0, k1, k2⟩ := obj_cells OBJ.out
  obtain ⟨e0, e1, e2⟩ := X1.out.at_ (i := n) (by omega)
  rw [show (F.upN p s).pv n = p from HP.out] at e0
  rw [show (F.upN p s).nx n = s from by show (if n = p then s else F.nx n) = s; rw [if_neg (Ne.symm hpn)]; exact HSE.out] at e1
  obtain ⟨b0, _, _⟩ := X1.out.at_ hsL
  have f0 := X1.out.frozen
  have OD := Lib.hid (show y.drew.heap[c]? = _ from OBJ.out)
  have LD := Lib.hid (LW.out.of (w' := y.drew) rfl)
  have XD := Lib.hid (X1.out.of (w' := y.drew) rfl)
  have KD := Lib.hid (K1.out.tr (Below.drew (Below.refl y.heap.size y)))
  go_still_tail 14, (by kernel_rfl)
  change wpList _ _ _ _ _ y.drew
  generalize y.drew = z at *
  clear k0 k1 k2 e0 e1 e2 b0 f0
  obtain ⟨b0, _, _⟩ := XD.out.at_ hsL
  obtain ⟨_, _, d2⟩ := XD.out.at_ (i := n) (by omega)
  obtain ⟨k0, k1, k2⟩ := obj_cells OD.out
  obtain ⟨g0, g1⟩ := LD.out.at_ HL.out
  have f0 := XD.out.frozen
  have s1 : ¬ s * 3 = n * 3 + 2 := by omega
  have s2 : ¬ n * 3 + 2 = s * 3 := by omega
  obtain ⟨ln, hln⟩ : ∃ x, (l1 ++ n :: l2).length = x := ⟨_, rfl⟩
  have hl0 : 1 ≤ (l1 ++ n :: l2).length := by simp; omega
  rw [hln] at hll g0 hl0
  have HLN := Lib.hid hln
  have wl := IntWalk.i64_in ((ln : Int) - 1) (by omega)
  clear hln
  go_wp2_with fail
  go_ret
  refine ⟨rfl, ?_, ?_⟩
  · have eF : ((F.upN p s).upP s p).upH n (-1) = unlinkF F n := by
      rw [← HP.out, ← HSE.out]; rfl
    have hF := (XD.out.setP s p).setH n (-1)
    rw [eF] at hF
    have hr : ∀ (x : World) (j : Nat) (u : Value), (x.setCell ⟨q, j, none⟩ u).heap[r]? = x.heap[r]? := fun x j u => Below.heap_setCell _ _ _ r hrq
    have hl2 : (((l1 ++ l2).length : Nat) : Int) = (ln : Int) - 1 := by rw [← HLN.out]; simp; omega
    have hL := ((LD.out.of (hr _ (s * 3) (.int .u32 (p : Int)))).of (hr _ (n * 3 + 2) (.int .i32 (-1)))).set (h := h) (l := l1 ++ l2)
    rw [hl2] at hL
    refine HVD.out.upd ?_ (hF.of (Below.heap_setCell _ _ _ q hqr)) hL RR.out List.length_set
    exact ((Below.heap_setCell _ _ _ c hcr).trans ((Below.heap_setCell _ _ _ c hcq).trans ((Below.heap_setCell _ _ _ c hcq).trans OD.out))).trans HVD.out.obj.symm
  · have hq : Ob c q r q := .inr (.inl rfl)
    have hr : Ob c q r r := .inr (.inr rfl)
    exact ((KD.out.setCell (.inl hq) _).setCell (.inl hq) _).setCell (.inl hr) _
end
end Go.Proofs.Ytggimkfepcgaoaa.Lnk
end
