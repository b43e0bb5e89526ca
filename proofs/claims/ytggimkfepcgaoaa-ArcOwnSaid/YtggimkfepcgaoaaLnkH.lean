/-
  Links (layer 14): link.
-/
import Derived.Test.YtggimkfepcgaoaaLnkF
set_option linter.unusedVariables false
set_option linter.unusedSimpArgs false
section
namespace Go.Proofs.Ytggimkfepcgaoaa.Lnk
open Go Go.RowKit Kit
section
variable {w : World} {c q r cq cr N : Nat} {F : Fd} {Ls : List (List Nat)}
theorem nodup_le : ∀ {N : Nat} {l : List Nat}, l.Nodup → (∀ x ∈ l, x < N) → l.length ≤ N := by
  intro N
  induction N with
  | zero =>
    intro l hd hm
    cases l with
    | nil => simp
    | cons x l => exact absurd (hm x (by simp)) (by omega)
  | succ N ih =>
    intro l hd hm
    by_cases hN : N ∈ l
    · have h1 := ih (l := l.erase N) (hd.erase N) fun x hx => by
        have h2 := (hd.mem_erase_iff).1 hx
        have := hm x h2.2
        omega
      rw [List.length_erase_of_mem hN] at h1
      omega
    · have := ih hd fun x hx => by
        have h2 := hm x hx
        have : x ≠ N := fun he => hN (by rw [← he]; exact hx)
        omega
      omega
theorem Lo.len_le (H : Lo w c q r cq cr N F Ls) {k : Nat} {l : List Nat} (hl : Ls[k]? = some l) : l.length ≤ 4194304 :=
  Nat.le_trans (nodup_le (H.ring.nodup k l hl) fun x hx => (H.ring.mem k l x hl hx).1) H.n2
theorem Lo.upd {w' : World} {F' : Fd} {Ls' : List (List Nat)} (H : Lo w c q r cq cr N F Ls) (hc : w'.heap[c]? = w.heap[c]?) (hF : Fw w' q (N + Ls.length) F') (hL : Lw w' r Ls') (hR : Ring F' N Ls') (hl : Ls'.length = Ls.length) : Lo w' c q r cq cr N F' Ls' :=
  ⟨by rw [hl]; exact hc.trans H.obj, by rw [hl]; exact hF, hL, hR, H.cq, H.cr, H.qr, H.n1, H.n2, by rw [hl]; exact H.h1, by rw [hl]; exact H.h2⟩
set_option maxRecDepth 100000 in
set_option maxHeartbeats 2000000 in
theorem link_any (H : Lo w c q r cq cr N F Ls) {h n : Nat} {l1 l2 : List Nat} (hl : Ls[h]? = some (l1 ++ l2)) (hn : n < N) (hf : Free Ls n) {o : Nat} (ho : fst l2 (N + h) = o) :
    Calls Try.prog 132 #[.pointer (some ⟨c, 0, none⟩), .int .u32 (n : Int), .int .u32 (o : Int)] w fun e w' => e = .returned (.tuple #[]) ∧ Lo w' c q r cq cr N (linkF F n o) (Ls.set h (l1 ++ n :: l2)) ∧ Kp (Ob c q r) w w' := by
  have hk := (List.getElem?_eq_some_iff.1 hl).1
  have hR := H.ring.link hl hn hf
  have hll := H.len_le hl
  rw [ho] at hR
  have hno : n ≠ o := by
    rw [← ho]
    cases l2 with
    | nil => show n ≠ N + h; omega
    | cons y l2 => intro he; exact hf h _ hl (by rw [he]; show y ∈ _; simp)
  obtain ⟨k0, k1, k2⟩ := H.cells
  obtain ⟨p, hp⟩ : ∃ p, F.pv o = p := ⟨_, rfl⟩
  have hoL : o < N + Ls.length := by
    rw [← ho]
    cases l2 with
    | nil => show N + h < _; omega
    | cons y l2 => have := (H.ring.mem h _ y hl (by simp)).1; show y < _; omega
  have hpL : p < N + Ls.length := by
    have hc := H.ring.ch h _ hl
    have h1 : F.pv o = lst (N + h) l1 := by
      rw [← ho]
      cases l2 with
      | nil => rw [List.append_nil] at hc; exact hc.last
      | cons y l2 => exact (ch_split.1 hc).1.last
    rw [← hp, h1]
    rcases lst_mem (a := N + h) (l := l1) with h2 | h2
    · rw [h2]; omega
    · have := (H.ring.mem h _ _ hl (List.mem_append_left _ h2)).1; omega
  have hnp : n ≠ p := by
    intro he
    have hc := H.ring.ch h _ hl
    have h1 : F.pv o = lst (N + h) l1 := by
      rw [← ho]
      cases l2 with
      | nil => rw [List.append_nil] at hc; exact hc.last
      | cons y l2 => exact (ch_split.1 hc).1.last
    rw [← hp, h1] at he
    rcases lst_mem (a := N + h) (l := l1) with h2 | h2
    · rw [h2] at he; omega
    · exact hf h _ hl (List.mem_append_left _ (by rw [he]; exact h2))
  obtain ⟨e0, e1, e2⟩ := H.fw.at_ hoL
  rw [hp] at e0
  rw [hR.2] at e2
  obtain ⟨g0, gf⟩ := H.lw.at_ hl
  have n2 := H.n2
  have h2 := H.h2
  have i1 : (o : Int) < (N : Int) + (Ls.length : Int) := by omega
  have i2 : (o : Int) < ((N + Ls.length : Nat) : Int) := by omega
  have i3 : (0 : Int) ≤ (o : Int) := by omega
  have j1 : (n : Int) < (N : Int) + (Ls.length : Int) := by omega
  have j2 : (n : Int) < ((N + Ls.length : Nat) : Int) := by omega
  have j3 : (0 : Int) ≤ (n : Int) := by omega
  have p1 : (p : Int) < (N : Int) + (Ls.length : Int) := by omega
  have p2 : (p : Int) < ((N + Ls.length : Nat) : Int) := by omega
  have p3 : (0 : Int) ≤ (p : Int) := by omega
  have q1 : (h : Int) < (Ls.length : Int) := by omega
  have q3 : (0 : Int) ≤ (h : Int) := by omega
  have HH := Lib.hid H
  have HS := Lib.hid (fun w' (hb : Below w.heap.size w w') => (show w'.cell? ⟨c, 1, none⟩ = some (.slice (some ⟨q, 0, none⟩) (N + Ls.length) cq) ∧ w'.cell? ⟨q, o * 3, none⟩ = some (.int .u32 (p : Int)) ∧ w'.cell? ⟨q, o * 3 + 2, none⟩ = some (.int .i32 (h : Int)) ∧ Below w.heap.size w w' from by
    obtain ⟨k0, k1, k2⟩ := (H.below hb).cells
    obtain ⟨e0, e1, e2⟩ := (H.below hb).fw.at_ hoL
    rw [hp] at e0
    rw [hR.2] at e2
    exact ⟨k1, e0, e2, hb⟩))
  have RR := Lib.hid hR
  have HP := Lib.hid hp
  have HL := Lib.hid hl
  clear H hR hl hf ho hp g0 gf k0 k1 k2 e0 e1 e2
  go_enter Try.func132, Try.ntmps132
  go_wp2_with fail
  go_region_held3 (fun w' => w'.cell? ⟨c, 1, none⟩ = some (.slice (some ⟨q, 0, none⟩) (N + Ls.length) cq) ∧ w'.cell? ⟨q, o * 3, none⟩ = some (.int .u32 (p : Int)) ∧ w'.cell? ⟨q, o * 3 + 2, none⟩ = some (.int .i32 (h : Int)) ∧ Below w.heap.size w w')
    (first
      | (exact HS.out _ (Below.drew (Below.refl _ _)))
      | assumption
      | fail)
    (first | fail)
  have HD := Lib.hid (HH.out.below (Below.drew (Below.refl _ _)))
  have KD := Lib.hid (Kp.of (bad := Ob c q r) (Below.drew (Below.refl w.heap.size w)))
  generalize w.drew = v at *
  obtain ⟨k0, k1, k2⟩ := HD.out.cells
  obtain ⟨e0, e1, e2⟩ := HD.out.fw.at_ (i := n) (by omega)
  obtain ⟨_, a1, _⟩ := HD.out.fw.at_ hpL
  obtain ⟨b0, _, _⟩ := HD.out.fw.at_ hoL
  obtain ⟨g0, g1⟩ := HD.out.lw.at_ HL.out
  have f0 := HD.out.fw.frozen
  have hcq := HD.out.cq
  have hqc := HD.out.cq.symm
  have hcr := HD.out.cr
  have hrc := HD.out.cr.symm
  have hqr := HD.out.qr
  have hrq := HD.out.qr.symm
  have s1 : ¬ n * 3 = p * 3 + 1 := by omega
  have s2 : ¬ n * 3 + 1 = p * 3 + 1 := by omega
  have s3 : ¬ n * 3 + 2 = p * 3 + 1 := by omega
  have s4 : ¬ n * 3 = o * 3 := by omega
  have s5 : ¬ n * 3 + 1 = o * 3 := by omega
  have s6 : ¬ n * 3 + 2 = o * 3 := by omega
  have s7 : ¬ p * 3 + 1 = o * 3 := by omega
  have s1' : ¬ p * 3 + 1 = n * 3 := by omega
  have s2' : ¬ p * 3 + 1 = n * 3 + 1 := by omega
  have s3' : ¬ p * 3 + 1 = n * 3 + 2 := by omega
  have s4' : ¬ o * 3 = n * 3 := by omega
  have s5' : ¬ o * 3 = n * 3 + 1 := by omega
  have s6' : ¬ o * 3 = n * 3 + 2 := by omega
  have s7' : ¬ o * 3 = p * 3 + 1 := by omega
  have wl := IntWalk.i64_in ((((l1 ++ l2).length : Nat) : Int) + 1) (by omega)
  obtain ⟨ln, hln⟩ : ∃ x, (l1 ++ l2).length = x := ⟨_, rfl⟩
  rw [hln] at wl g0 hll
  have HLN := Lib.hid hln
  clear hln
  go_wp2_with fail
  refine bodyPost_end (v := .tuple #[]) (results_none rfl _ _ _) rfl ⟨rfl, ?_, ?_⟩
  · have eF : ((((F.upP n p).upN n o).upH n (h : Int)).upN p n).upP o n = linkF F n o := by
      rw [← HP.out, ← RR.out.2]; rfl
    have hF := ((((HD.out.fw.setP n p).setN n o).setH n (h : Int)).setN p n).setP o n
    rw [eF] at hF
    have hc : ∀ (x : World) (j : Nat) (u : Value), (x.setCell ⟨q, j, none⟩ u).heap[c]? = x.heap[c]? := fun x j u => Below.heap_setCell _ _ _ c hcq
    have hr : ∀ (x : World) (j : Nat) (u : Value), (x.setCell ⟨q, j, none⟩ u).heap[r]? = x.heap[r]? := fun x j u => Below.heap_setCell _ _ _ r hrq
    have hl2 : (l1 ++ n :: l2).length = ln + 1 := by rw [← HLN.out]; simp; omega
    have hL := (((((HD.out.lw.of (hr _ (n * 3) (.int .u32 (p : Int)))).of (hr _ (n * 3 + 1) (.int .u32 (o : Int)))).of (hr _ (n * 3 + 2) (.int .i32 (h : Int)))).of (hr _ (p * 3 + 1) (.int .u32 (n : Int)))).of (hr _ (o * 3) (.int .u32 (n : Int)))).set (h := h) (l := l1 ++ n :: l2)
    rw [hl2] at hL
    refine HD.out.upd ?_ (hF.of (Below.heap_setCell _ _ _ q hqr)) hL RR.out.1 List.length_set
    exact (Below.heap_setCell _ _ _ c hcr).trans ((hc _ _ _).trans ((hc _ _ _).trans ((hc _ _ _).trans ((hc _ _ _).trans (hc _ _ _)))))
  · have hq : Ob c q r q := .inr (.inl rfl)
    have hr : Ob c q r r := .inr (.inr rfl)
    exact (((((KD.out.setCell (.inl hq) _).setCell (.inl hq) _).setCell (.inl hq) _).setCell (.inl hq) _).setCell (.inl hq) _).setCell (.inl hr) _
end
end Go.Proofs.Ytggimkfepcgaoaa.Lnk
end
section
namespace Go.Proofs.Ytggimkfepcgaoaa.Lnk
open Go Go.RowKit Kit
section
variable {w : World} {c q r cq cr N : Nat} {F : Fd} {Ls : List (List Nat)}
set_option maxRecDepth 100000 in
theorem add_badH (H : Lo w c q r cq cr N F Ls) {h n : Int} (fv : Value) (hh : ¬ (0 ≤ h ∧ h < (Ls.length : Int))) :
    Calls Try.prog 85 #[.pointer (some ⟨c, 0, none⟩), .int .i64 h, .int .u32 n, fv] w fun e w' => e = .returned (.int .i64 2) ∧ Below w.heap.size w w' := by
  have H1 := Lib.hid (checkHead_bad H hh)
  clear H hh
  go_enter Try.func85, Try.ntmps85
  go_wp2_with fail
  refine H1.out.mono ?_
  rintro e w1 ⟨rfl, rfl⟩
  go_wp2_with fail
  go_ret
  exact ⟨rfl, Below.refl _ _⟩
set_option maxRecDepth 100000 in
theorem add_badN (H : Lo w c q r cq cr N F Ls) {h : Nat} {n : Int} (fv : Value) (hh : h < Ls.length) (n0 : (N : Int) ≤ n) (n1 : n < 4294967296) :
    Calls Try.prog 85 #[.pointer (some ⟨c, 0, none⟩), .int .i64 (h : Int), .int .u32 n, fv] w fun e w' => e = .returned (.int .i64 2) ∧ Below w.heap.size w w' := by
  have H1 := Lib.hid (checkHead_ok H hh)
  have HB := Lib.hid (box_below w #[.int .u32 n] 38)
  have H2 := check_any (H.below HB.out) (n := n) (by omega) n1 (one_block w _ _)
  rw [if_neg (by omega)] at H2
  have H2 := Lib.hid H2
  clear H hh
  go_enter Try.func85, Try.ntmps85
  go_wp2_with fail
  refine H1.out.mono ?_
  rintro e w1 ⟨rfl, rfl⟩
  go_wp2_with fail
  refine H2.out.mono ?_
  rintro e w2 ⟨rfl, b2⟩
  have B2 := Lib.hid (tr HB.out b2)
  clear b2
  go_wp2_with fail
  go_ret
  exact ⟨rfl, B2.out⟩
set_option maxRecDepth 100000 in
theorem add_busy (H : Lo w c q r cq cr N F Ls) {h n : Nat} (fv : Value) (hh : h < Ls.length) (hn : n < N) (hf : F.hd n ≠ -1) :
    Calls Try.prog 85 #[.pointer (some ⟨c, 0, none⟩), .int .i64 (h : Int), .int .u32 (n : Int), fv] w fun e w' => e = .returned (.int .i64 11) ∧ Below w.heap.size w w' := by
  have n2 := H.n2
  have H1 := Lib.hid (checkHead_ok H hh)
  have HB := Lib.hid (box_below w #[.int .u32 (n : Int)] 38)
  have H2 := check_any (H.below HB.out) (n := n) (by omega) (by omega) (one_block w _ _)
  rw [if_pos (by omega)] at H2
  have H2 := Lib.hid H2
  have HS := Lib.hid (fun w' (hb : Below w.heap.size w w') => (show w'.cell? ⟨c, 1, none⟩ = some (.slice (some ⟨q, 0, none⟩) (N + Ls.length) cq) ∧ w'.cell? ⟨q, n * 3 + 2, none⟩ = some (.int .i32 (F.hd n)) from ⟨(H.below hb).cells.2.1, ((H.below hb).fw.at_ (i := n) (by omega)).2.2⟩))
  have i1 : (n : Int) < (N : Int) + (Ls.length : Int) := by omega
  have i2 : (n : Int) < ((N + Ls.length : Nat) : Int) := by omega
  have i3 : (0 : Int) ≤ (n : Int) := by omega
  have hb : (F.hd n == -1) = false := by rw [beq_eq_false_iff_ne]; exact hf
  generalize F.hd n = k at *
  clear H hh
  go_enter Try.func85, Try.ntmps85
  go_wp2_with fail
  refine H1.out.mono ?_
  rintro e w1 ⟨rfl, rfl⟩
  go_wp2_with fail
  refine H2.out.mono ?_
  rintro e w2 ⟨rfl, b2⟩
  have B2 := Lib.hid (tr HB.out b2)
  clear b2
  obtain ⟨k1, e2⟩ := HS.out _ B2.out
  go_wp2_with fail
  go_ret
  exact ⟨rfl, B2.out⟩
set_option maxRecDepth 100000 in
theorem add_back (H : Lo w c q r cq cr N F Ls) {h n : Nat} {l1 l2 : List Nat} (hl : Ls[h]? = some (l1 ++ l2)) (hn : n < N) (hf : Free Ls n) {o : Nat} (ho : fst l2 (N + h) = o)
    (hC : ∀ w', Below w.heap.size w w' → Calls Try.prog 86 #[.int .u32 ((N + h : Nat) : Int)] w' fun e v => e = .returned (.int .u32 (o : Int)) ∧ Below w'.heap.size w' v) :
    Calls Try.prog 85 #[.pointer (some ⟨c, 0, none⟩), .int .i64 (h : Int), .int .u32 (n : Int), .func (.func 86) #[] #[]] w fun e w' => e = .returned (.int .i64 0) ∧ Lo w' c q r cq cr N (linkF F n o) (Ls.set h (l1 ++ n :: l2)) ∧ Kp (Ob c q r) w w' := by
  have n2 := H.n2
  have hh := (List.getElem?_eq_some_iff.1 hl).1
  have H1 := Lib.hid (checkHead_ok H hh)
  have HB := Lib.hid (box_below w #[.int .u32 (n : Int)] 38)
  have H2 := check_any (H.below HB.out) (n := n) (by omega) (by omega) (one_block w _ _)
  rw [if_pos (by omega)] at H2
  have H2 := Lib.hid H2
  have hd := H.ring.out n hn hf
  have HS := Lib.hid (fun w' (hb : Below w.heap.size w w') => (show w'.cell? ⟨c, 1, none⟩ = some (.slice (some ⟨q, 0, none⟩) (N + Ls.length) cq) ∧ w'.cell? ⟨q, n * 3 + 2, none⟩ = some (.int .i32 (-1)) from by
    refine ⟨(H.below hb).cells.2.1, ?_⟩
    have := ((H.below hb).fw.at_ (i := n) (by omega)).2.2
    rwa [hd] at this))
  have HR := Lib.hid (fun w' (hb : Below w.heap.size w w') => root_any (H.below hb) hh)
  have HK := Lib.hid (fun w' (hb : Below w.heap.size w w') => link_any (H.below hb) hl hn hf ho)
  have HC := Lib.hid hC
  have i1 : (n : Int) < (N : Int) + (Ls.length : Int) := by omega
  have i2 : (n : Int) < ((N + Ls.length : Nat) : Int) := by omega
  have i3 : (0 : Int) ≤ (n : Int) := by omega
  clear H hh hl hf ho hd hC
  go_enter Try.func85, Try.ntmps85
  go_wp2_with fail
  refine H1.out.mono ?_
  rintro e w1 ⟨rfl, rfl⟩
  go_wp2_with fail
  refine H2.out.mono ?_
  rintro e w2 ⟨rfl, b2⟩
  have B2 := Lib.hid (tr HB.out b2)
  clear b2
  obtain ⟨k1, e2⟩ := HS.out _ B2.out
  go_wp2_with fail
  refine (HR.out _ B2.out).mono ?_
  rintro e w3 ⟨rfl, rfl⟩
  go_wp2_with fail
  refine (HC.out _ B2.out).mono ?_
  rintro e w4 ⟨rfl, b4⟩
  have B4 := Lib.hid (tr B2.out b4)
  clear b4 k1 e2
  go_wp2_with fail
  refine (HK.out _ B4.out).mono ?_
  rintro e w5 ⟨rfl, h5, k5⟩
  have H5 := Lib.hid h5
  have K5 := Lib.hid ((Kp.of B4.out).trans k5)
  clear h5 k5
  go_wp2_with fail
  go_ret
  exact ⟨rfl, H5.out, K5.out⟩
set_option maxRecDepth 100000 in
theorem add_front (H : Lo w c q r cq cr N F Ls) {h n : Nat} {l1 l2 : List Nat} (g : Nat) (hl : Ls[h]? = some (l1 ++ l2)) (hn : n < N) (hf : Free Ls n) {o : Nat} (ho : fst l2 (N + h) = o)
    (hC : ∀ w', Below w.heap.size w w' → Calls Try.prog 90 #[.int .u32 ((N + h : Nat) : Int), .pointer (some ⟨g, 0, none⟩)] w' fun e v => e = .returned (.int .u32 (o : Int)) ∧ Below w'.heap.size w' v) :
    Calls Try.prog 85 #[.pointer (some ⟨c, 0, none⟩), .int .i64 (h : Int), .int .u32 (n : Int), .func (.func 90) #[] #[.pointer (some ⟨g, 0, none⟩)]] w fun e w' => e = .returned (.int .i64 0) ∧ Lo w' c q r cq cr N (linkF F n o) (Ls.set h (l1 ++ n :: l2)) ∧ Kp (Ob c q r) w w' := by
  have n2 := H.n2
  have hh := (List.getElem?_eq_some_iff.1 hl).1
  have H1 := Lib.hid (checkHead_ok H hh)
  have HB := Lib.hid (box_below w #[.int .u32 (n : Int)] 38)
  have H2 := check_any (H.below HB.out) (n := n) (by omega) (by omega) (one_block w _ _)
  rw [if_pos (by omega)] at H2
  have H2 := Lib.hid H2
  have hd := H.ring.out n hn hf
  have HS := Lib.hid (fun w' (hb : Below w.heap.size w w') => (show w'.cell? ⟨c, 1, none⟩ = some (.slice (some ⟨q, 0, none⟩) (N + Ls.length) cq) ∧ w'.cell? ⟨q, n * 3 + 2, none⟩ = some (.int .i32 (-1)) from by
    refine ⟨(H.below hb).cells.2.1, ?_⟩
    have := ((H.below hb).fw.at_ (i := n) (by omega)).2.2
    rwa [hd] at this))
  have HR := Lib.hid (fun w' (hb : Below w.heap.size w w') => root_any (H.below hb) hh)
  have HK := Lib.hid (fun w' (hb : Below w.heap.size w w') => link_any (H.below hb) hl hn hf ho)
  have HC := Lib.hid hC
  have i1 : (n : Int) < (N : Int) + (Ls.length : Int) := by omega
  have i2 : (n : Int) < ((N + Ls.length : Nat) : Int) := by omega
  have i3 : (0 : Int) ≤ (n : Int) := by omega
  clear H hh hl hf ho hd hC
  go_enter Try.func85, Try.ntmps85
  go_wp2_with fail
  refine H1.out.mono ?_
  rintro e w1 ⟨rfl, rfl⟩
  go_wp2_with fail
  refine H2.out.mono ?_
  rintro e w2 ⟨rfl, b2⟩
  have B2 := Lib.hid (tr HB.out b2)
  clear b2
  obtain ⟨k1, e2⟩ := HS.out _ B2.out
  go_wp2_with fail
  refine (HR.out _ B2.out).mono ?_
  rintro e w3 ⟨rfl, rfl⟩
  go_wp2_with fail
  refine (HC.out _ B2.out).mono ?_
  rintro e w4 ⟨rfl, b4⟩
  have B4 := Lib.hid (tr B2.out b4)
  clear b4 k1 e2
  go_wp2_with fail
  refine (HK.out _ B4.out).mono ?_
  rintro e w5 ⟨rfl, h5, k5⟩
  have H5 := Lib.hid h5
  have K5 := Lib.hid ((Kp.of B4.out).trans k5)
  clear h5 k5
  go_wp2_with fail
  go_ret
  exact ⟨rfl, H5.out, K5.out⟩
end
end Go.Proofs.Ytggimkfepcgaoaa.Lnk
end
