/-
  Adaptive replacement (layer 29), the reference: Use of a key that is nowhere.
-/
import Derived.Test.YtggimkfepcgaoaaArqI
import Derived.Test.YtggimkfepcgaoaaArqK
import Derived.Deep.CutBlock
import Derived.Deep.DeepCutAuto
set_option linter.unusedVariables false
set_option linter.unusedSimpArgs false
namespace Go.Proofs.Ytggimkfepcgaoaa.Arc
open Go Go.RowKit Kit Go.Maps Lnk Gho
theorem rcutL {w : World} {p : Option Addr} {n c : Nat} {l : List Nat} (hl : l.length = n) (h1 : 1 ≤ n) (hn : n ≤ 1000000) (hc : n ≤ c) (r : Ru w p (ints l)) :
    Calls Try.prog 151 #[.slice p n c] w fun e w' => ∃ q m k, e = .returned (.tuple #[.slice q m k, .int .u32 ((l.getLastD 0 : Nat) : Int)]) ∧ Lv w' l.dropLast (.slice q m k) ∧ (∀ y, q = some y → w.heap.size ≤ y.block) ∧ Below w.heap.size w w' := by
  obtain ⟨m, rfl⟩ : ∃ m, n = m + 1 := ⟨n - 1, by omega⟩
  have hp := last_of (l := l) (by omega)
  have hm : l.dropLast.length = m := by rw [List.length_dropLast]; omega
  rw [hp] at r
  refine (rcut_any hm hn hc r).mono ?_
  rintro e w' ⟨q, k, rfl, ho, hb⟩
  exact ⟨q, m, k, rfl, Lv.of ho hm, fun y hy => by subst hy; exact (ho.lt y.block rfl).1, hb⟩
section
variable {w u u' : World} {s : Nat} {t : Int} {L : Nat → List Nat} {f : Nat → Value} {x0 x1 x2 : Value}
/-- a part of the turn is stored -/
theorem Uf.left (h : Uf w u s t L f x0 x1 x2) (y1 : Value) : Uf w (u.setCell ⟨w.heap.size + 1 + 1 + 1, 1, none⟩ y1) s t L f x0 y1 x2 := by
  have hs := h.lt
  have kk := kp_set (u := u) (p := w.heap.size + 1 + 1 + 1) (j := 1) (d := y1)
  exact ⟨(kk.block _ (by omega) (by omega)).trans h.a, (kk.block _ (by omega) (by omega)).trans h.b, (kk.block _ (by omega) (by omega)).trans h.c, heap_set (j := 1) h.d _, h.row (by omega) (Nat.le_refl _) _, h.o, h.w'.setCell (p := ⟨w.heap.size + 1 + 1 + 1, 1, none⟩) (by simp <;> omega) _⟩
theorem Uf.gone (h : Uf w u s t L f x0 x1 x2) (y2 : Value) : Uf w (u.setCell ⟨w.heap.size + 1 + 1 + 1, 2, none⟩ y2) s t L f x0 x1 y2 := by
  have hs := h.lt
  have kk := kp_set (u := u) (p := w.heap.size + 1 + 1 + 1) (j := 2) (d := y2)
  exact ⟨(kk.block _ (by omega) (by omega)).trans h.a, (kk.block _ (by omega) (by omega)).trans h.b, (kk.block _ (by omega) (by omega)).trans h.c, heap_set (j := 2) h.d _, h.row (by omega) (Nat.le_refl _) _, h.o, h.w'.setCell (p := ⟨w.heap.size + 1 + 1 + 1, 2, none⟩) (by simp <;> omega) _⟩
end
set_option maxRecDepth 100000 in
set_option maxHeartbeats 8000000 in
theorem ruse_none {w : World} {s : Nat} {t : Int} {L : Nat → List Nat} {f : Nat → Value} (h : Rs w L f) (ai : Ai s t L) (x : Nat) (hx : ∀ j, j < 4 → x ∉ L j) {L' : Nat → List Nat} {left : Bool} {out : Nat} (hr : missR s t L = (L', left, out)) (hn' : (L' 0).length ≤ 100000) :
    Calls Try.prog 121 #[rv29 s t f, .int .u32 (x : Int)] w fun e w' => ∃ f', e = .returned (.tuple #[rv29 s t f', tv false left (out : Int)]) ∧ Rs w' (upd L' 0 (x :: L' 0)) f' ∧ Nf w f f' ∧ Below w.heap.size w w' := by
  have hn : ∀ j, j < 4 → (L j).length ≤ 2048 := fun j hj => by
    obtain ⟨_, ha, hb, hc, t0, t1, s1, s2⟩ := ai
    match j, hj with | 0, _ => omega | 1, _ => omega | 2, _ => omega | 3, _ => omega
  have HHAS := Lib.hid (fun u (hb : Rs u L f) => rhas29_any (s := s) (t := t) hb (fun i hi => Nat.le_trans (hn i hi) (by omega)) x)
  have HB := Lib.hid (Uf.begin (s := s) (t := t) h)
  have HAI := Lib.hid ai
  have HR := Lib.hid hr
  have HLN := Lib.hid hn
  have hx0 := hx 0 (by omega)
  have hx1 := hx 1 (by omega)
  rw [decide_eq_false (by rintro (h | h); exact hx0 h; exact hx1 h)] at HHAS
  obtain ⟨p0, n0, c0, e0, l0, k0, r0, b0⟩ := h 0 (by omega)
  obtain ⟨p1, n1, c1, e1, l1, k1, r1, b1⟩ := h 1 (by omega)
  obtain ⟨p2, n2, c2, e2, l2, k2, r2, b2⟩ := h 2 (by omega)
  obtain ⟨p3, n3, c3, e3, l3, k3, r3, b3⟩ := h 3 (by omega)
  have HN' := Lib.hid hn'
  have HLL := Lib.hid (show f 0 = .slice p0 n0 c0 ∧ f 1 = .slice p1 n1 c1 ∧ f 2 = .slice p2 n2 c2 ∧ f 3 = .slice p3 n3 c3 from ⟨e0, e1, e2, e3⟩)
  have HLE := Lib.hid (show (L 0).length = n0 ∧ (L 1).length = n1 ∧ (L 2).length = n2 ∧ (L 3).length = n3 from ⟨l0, l1, l2, l3⟩)
  have HI2 := Lib.hid (fun u (hb : Below w.heap.size w u) => (by have := rin_any (c := c2) l2 (by have := hn 2 (by omega); omega) (r2.below hb) x; rwa [decide_eq_false (hx 2 (by omega))] at this : Calls Try.prog 149 #[.slice p2 n2 c2, .int .u32 (x : Int)] u fun e w' => e = .returned (.bool false) ∧ Below u.heap.size u w'))
  have HI3 := Lib.hid (fun u (hb : Below w.heap.size w u) => (by have := rin_any (c := c3) l3 (by have := hn 3 (by omega); omega) (r3.below hb) x; rwa [decide_eq_false (hx 3 (by omega))] at this : Calls Try.prog 149 #[.slice p3 n3 c3, .int .u32 (x : Int)] u fun e w' => e = .returned (.bool false) ∧ Below u.heap.size u w'))
  obtain ⟨z0, hz0⟩ : ∃ z, (L 0).getLastD 0 = z := ⟨_, rfl⟩
  have HC0 := Lib.hid (fun u (hb : Below w.heap.size w u) (h1 : 1 ≤ n0) => rcutL (c := c0) l0 h1 (by have := hn 0 (by omega); omega) k0 (r0.below hb))
  rw [hz0] at HC0
  have HZ0 := Lib.hid hz0
  clear hz0
  have HC2 := Lib.hid (fun u (hb : Below w.heap.size w u) (h1 : 1 ≤ n2) => rcutL (c := c2) l2 h1 (by have := hn 2 (by omega); omega) k2 (r2.below hb))
  have HC3 := Lib.hid (fun u (hb : Below w.heap.size w u) (h1 : 1 ≤ n3) => rcutL (c := c3) l3 h1 (by have := hn 3 (by omega); omega) k3 (r3.below hb))
  have HQ := Lib.hid (show n0 + n1 ≤ s ∧ n0 + n2 ≤ s ∧ n0 + n1 + n2 + n3 ≤ 2 * s ∧ t ≤ s ∧ 1 ≤ s ∧ s ≤ 1024 from by
    obtain ⟨_, ha, hb, hc, t0, t1, s1, s2⟩ := ai
    omega)
  have hq := HQ.out
  have w0 := IntWalk.i64_in ((n0 : Int) + (n2 : Int)) (by omega)
  have w1 := IntWalk.i64_in ((n0 : Int) + (n1 : Int)) (by omega)
  have w2 := IntWalk.i64_in ((n0 : Int) + (n1 : Int) + (n2 : Int)) (by omega)
  have w3 := IntWalk.i64_in ((n0 : Int) + (n1 : Int) + (n2 : Int) + (n3 : Int)) (by omega)
  have wd := IntWalk.i64_in (2 * (s : Int)) (by omega)
  have HW := Lib.hid (And.intro w1 (And.intro w2 (And.intro w3 wd)))
  unfold rv29 at HHAS ⊢
  rw [e0, e1, e2, e3] at HHAS HB ⊢
  clear w1 w2 w3 wd
  obtain ⟨t0, ht0⟩ : ∃ b, (((n0 : Int) + (n2 : Int)) == (s : Int)) = b := ⟨_, rfl⟩
  go_enter Try.func121, Try.ntmps121
  go_upto_region 2 with fail
  generalize (((w.alloc (.cells #[.int .i64 (s : Int), .slice p0 n0 c0, .slice p1 n1 c1, .slice p2 n2 c2, .slice p3 n3 c3, .int .i64 t] 97)).alloc (.cells #[.int .i64 0, .slice none 0 0, .slice none 0 0, .slice none 0 0, .slice none 0 0, .int .i64 0] 97)).alloc (.cells #[.bool false, .bool false, .int .u32 0] 110)).alloc (.cells #[.bool false, .bool false, .int .u32 0] 110) = w4 at *
  clear h hn hn' hx0 hx1 hx hr e0 e1 e2 e3 l0 l1 l2 l3 k0 k1 k2 k3 r0 r1 r2 r3 b0 b1 b2 b3 hq ai
  have C := HB.out.cells
  simp [upd', HLL.out.1, HLL.out.2.1, HLL.out.2.2.1, HLL.out.2.2.2] at C
  obtain ⟨d0, d1, d2, d3, d4, d5, df⟩ := C
  go_quiet (fail)
  have U5 := Lib.hid (HB.out.call (below_drewN (Below.refl w4.heap.size w4) nq))
  clear d0 d1 d2 d3 d4 d5 df HB
  generalize w4.drewN nq = w5 at *
  have C := U5.out.cells
  simp [upd', HLL.out.1, HLL.out.2.1, HLL.out.2.2.1, HLL.out.2.2.2] at C
  obtain ⟨d0, d1, d2, d3, d4, d5, df⟩ := C
  go_wp2_with fail
  refine (HHAS.out _ U5.out.r).mono ?_
  rintro e w6 ⟨rfl, b6⟩
  have U6 := Lib.hid (U5.out.call b6)
  clear d0 d1 d2 d3 d4 d5 df b6 U5 HHAS
  have C := U6.out.cells
  simp [upd', HLL.out.1, HLL.out.2.1, HLL.out.2.2.1, HLL.out.2.2.2] at C
  obtain ⟨d0, d1, d2, d3, d4, d5, df⟩ := C
  go_wp2_with fail
  refine (HI2.out _ U6.out.w').mono ?_
  rintro e w7 ⟨rfl, b7⟩
  have U7 := Lib.hid (U6.out.call b7)
  clear d0 d1 d2 d3 d4 d5 df b7 U6 HI2
  have C := U7.out.cells
  simp [upd', HLL.out.1, HLL.out.2.1, HLL.out.2.2.1, HLL.out.2.2.2] at C
  obtain ⟨d0, d1, d2, d3, d4, d5, df⟩ := C
  go_wp2_with fail
  refine (HI3.out _ U7.out.w').mono ?_
  rintro e w8 ⟨rfl, b7⟩
  have U8 := Lib.hid (U7.out.call b7)
  clear d0 d1 d2 d3 d4 d5 df b7 U7 HI3
  have C := U8.out.cells
  simp [upd', HLL.out.1, HLL.out.2.1, HLL.out.2.2.1, HLL.out.2.2.2] at C
  obtain ⟨d0, d1, d2, d3, d4, d5, df⟩ := C
  go_upto_if 105 with fail
  go_cut [] (fun wx => ∃ f1, Hid (Uf w wx s t L' f1 (.bool false) (.bool left) (.int .u32 (out : Int))) ∧ Hid (Nf w f f1))
  case first =>
    have hm : missR s t L = (L', left, out) := HR.out
    unfold missR at hm
    rw [HLE.out.1, HLE.out.2.1, HLE.out.2.2.1, HLE.out.2.2.2] at hm
    have hq := HQ.out
    cases t0 with
    | true =>
      have ht1 : n0 + n2 = s := by rw [beq_iff_eq] at ht0; omega
      rw [if_pos ht1] at hm
      by_cases c1' : n0 < s
      · have i1 : (n0 : Int) < (s : Int) := by omega
        rw [if_pos c1'] at hm
        have HM := Lib.hid hm
        have hn2 : 1 ≤ n2 := by omega
        have HC := Lib.hid (HC2.out _ U8.out.w' hn2)
        have HZ := Lib.hid (show (L 0).length < s by rw [HLE.out.1]; exact c1')
        clear hm hq ht0 ht1 c1' hn2 w0
        go_wp2_with fail
        refine HC.out.mono ?_
        rintro e w9 ⟨q2, m2, k2, rfl, R2, f2, b2⟩
        have P2 := Lib.hid (show ∀ y, q2 = some y → w.heap.size + 3 < y.block from fun y hy => Nat.lt_of_lt_of_le U8.out.lt (f2 y hy))
        have V1 := Lib.hid (U8.out.call b2)
        clear d0 d1 d2 d3 d4 d5 df b2 U8 HC f2
        have C := V1.out.cells
        simp [upd', HLL.out.1, HLL.out.2.1, HLL.out.2.2.1, HLL.out.2.2.2] at C
        obtain ⟨d0, d1, d2, d3, d4, d5, df⟩ := C
        have V2 := Lib.hid (show Uf w (w9.setCell ⟨w.heap.size, 3, none⟩ (.slice q2 m2 k2)) s t _ _ _ _ _ from V1.out.put (i := 2) (by omega) R2 P2.out)
        clear R2 V1
        go_upto_region 22 with fail
        clear d0 d1 d2 d3 d4 d5 df
        generalize w9.setCell ⟨w.heap.size, 3, none⟩ (.slice q2 m2 k2) = w10 at *
        have NF := Lib.hid (show Nf w f (upd' f 2 (.slice q2 m2 k2)) from (Nf.refl f).put fun y hy => by have := P2.out y hy; omega)
        have C := V2.out.cells
        simp [upd', HLL.out.1, HLL.out.2.1, HLL.out.2.2.1, HLL.out.2.2.2] at C
        obtain ⟨d0, d1, d2, d3, d4, d5, df⟩ := C
        have hl2 : ∀ j, j < 4 → ((upd L 2 (L 2).dropLast) j).length ≤ 100000 := fun j hj => by
          by_cases e : j = 2
          · subst e; rw [upd_same, List.length_dropLast]; have := HLN.out 2 (by omega); omega
          · rw [upd_other e]; have := HLN.out j hj; omega
        have HR8 := Lib.hid (rroom_any V2.out.r hl2 false (fun hf => fromA_ne hf HQ.out.2.2.2.2.1 HQ.out.2.2.2.1 (.inl (by rw [upd_other (show 0 ≠ 2 by omega)]; exact HZ.out))) HM.out)
        rw [show rv29 s t (upd' f 2 (.slice q2 m2 k2)) = .agg #[.int .i64 (s : Int), .slice p0 n0 c0, .slice p1 n1 c1, .slice q2 m2 k2, .slice p3 n3 c3, .int .i64 t] from by simp [rv29, upd', HLL.out.1, HLL.out.2.1, HLL.out.2.2.1, HLL.out.2.2.2]] at HR8
        clear hl2
        go_wp2_with fail
        refine HR8.out.mono ?_
        rintro e w11 ⟨f', rfl, R9, N9, b9⟩
        have U9 := Lib.hid (V2.out.call b9)
        have HN9 := Lib.hid (And.intro R9 (And.intro (V2.out.off N9) (show Nf w f f' from NF.out.trans N9 (by have := V2.out.lt; omega))))
        obtain ⟨p0', n0', c0', g0, -⟩ := R9 0 (by omega)
        obtain ⟨p1', n1', c1', g1, -⟩ := R9 1 (by omega)
        obtain ⟨p2', n2', c2', g2, -⟩ := R9 2 (by omega)
        obtain ⟨p3', n3', c3', g3, -⟩ := R9 3 (by omega)
        have HGG := Lib.hid (show f' 0 = .slice p0' n0' c0' ∧ f' 1 = .slice p1' n1' c1' ∧ f' 2 = .slice p2' n2' c2' ∧ f' 3 = .slice p3' n3' c3' from ⟨g0, g1, g2, g3⟩)
        unfold rv29
        rw [g0, g1, g2, g3]
        clear d0 d1 d2 d3 d4 d5 df R9 N9 b9 V2 HR8 g0 g1 g2 g3
        obtain ⟨d0, d1, d2, d3, d4, d5, df⟩ := U9.out.cells
        obtain ⟨-, y0, y1, y2, yf⟩ := U9.out.turns
        go_wp2_with fail
        have U10 := Lib.hid ((U9.out.all t HN9.out.1 HN9.out.2.1).turn (.bool false) (.bool left) (.int .u32 (out : Int)))
        rw [HGG.out.1, HGG.out.2.1, HGG.out.2.2.1, HGG.out.2.2.2] at U10
        go_meet
        case rel => exact ⟨f', U10, Lib.hid HN9.out.2.2⟩
      · have i1 : ¬ (n0 : Int) < (s : Int) := by omega
        rw [if_neg c1', HZ0.out] at hm
        have e1 := (Prod.mk.inj hm).1
        have e2 := (Prod.mk.inj (Prod.mk.inj hm).2).1
        have e3 := (Prod.mk.inj (Prod.mk.inj hm).2).2
        subst e1 e2 e3
        clear hm
        have hn2 : 1 ≤ n0 := by omega
        obtain ⟨y2, y3, y4, y5, yg⟩ := U8.out.turns
        have HC := Lib.hid (fun u (hb : Below w.heap.size w u) => HC0.out u hb hn2)
        clear hq ht0 ht1 c1' hn2 w0
        go_upto_region 24 with fail
        have V1 := Lib.hid (U8.out.left (.bool true))
        clear d0 d1 d2 d3 d4 d5 df y2 y3 y4 y5 yg U8
        generalize w8.setCell ⟨w.heap.size + 1 + 1 + 1, 1, none⟩ (.bool true) = w9 at *
        have C := V1.out.cells
        simp [upd', HLL.out.1, HLL.out.2.1, HLL.out.2.2.1, HLL.out.2.2.2] at C
        obtain ⟨d0, d1, d2, d3, d4, d5, df⟩ := C
        go_wp2_with fail
        refine (HC.out _ V1.out.w').mono ?_
        rintro e w10 ⟨q2, m2, k2, rfl, R2, f2, b2⟩
        have P2 := Lib.hid (show ∀ y, q2 = some y → w.heap.size + 3 < y.block from fun y hy => Nat.lt_of_lt_of_le V1.out.lt (f2 y hy))
        have V2 := Lib.hid (V1.out.call b2)
        clear d0 d1 d2 d3 d4 d5 df b2 V1 HC f2
        have C := V2.out.cells
        simp [upd', HLL.out.1, HLL.out.2.1, HLL.out.2.2.1, HLL.out.2.2.2] at C
        obtain ⟨d0, d1, d2, d3, d4, d5, df⟩ := C
        obtain ⟨-, y0, y1, y2, yf⟩ := V2.out.turns
        have V3 := Lib.hid ((V2.out.put (i := 0) (by omega) R2 P2.out).gone (.int .u32 (z0 : Int)))
        clear R2 V2
        go_wp2_with fail
        go_meet
        case rel => exact ⟨_, V3, Lib.hid ((Nf.refl f).put fun y hy => by have := P2.out y hy; omega)⟩
    | false =>
      have ht1 : ¬ n0 + n2 = s := by intro h; rw [beq_eq_false_iff_ne] at ht0; omega
      rw [if_neg ht1] at hm
      obtain ⟨w1, w2, w3, wd⟩ := HW.out
      obtain ⟨N, hN⟩ : ∃ N : Nat, n0 + n1 + n2 + n3 = N := ⟨_, rfl⟩
      have hNi : (n0 : Int) + (n1 : Int) + (n2 : Int) + (n3 : Int) = (N : Int) := by omega
      rw [hNi] at w3
      rw [hN] at hm
      by_cases cA : N < s
      · have i1 : ¬ (s : Int) ≤ (N : Int) := by omega
        have i2 : ¬ s ≤ N := by omega
        rw [if_pos cA] at hm
        cases hm
        clear hq ht0 ht1 w0 hN cA
        go_wp2_with fail
        go_meet
        case rel => exact ⟨_, U8, Lib.hid (Nf.refl f)⟩
      · have i1 : (s : Int) ≤ (N : Int) := by omega
        have i2 : s ≤ N := by omega
        rw [if_neg cA] at hm
        have HZ := Lib.hid (show (L 0).length < s by rw [HLE.out.1]; omega)
        by_cases cB : N = 2 * s
        · have i3 : ((N : Int) == 2 * (s : Int)) = true := by rw [beq_iff_eq]; omega
          rw [if_pos cB] at hm
          have HM := Lib.hid hm
          have hn2 : 1 ≤ n3 := by omega
          have HC := Lib.hid (HC3.out _ U8.out.w' hn2)
          clear hm hq ht0 ht1 hn2 w0 hN cA cB
          go_wp2_with fail
          refine HC.out.mono ?_
          rintro e w9 ⟨q2, m2, k2, rfl, R2, f2, b2⟩
          have P2 := Lib.hid (show ∀ y, q2 = some y → w.heap.size + 3 < y.block from fun y hy => Nat.lt_of_lt_of_le U8.out.lt (f2 y hy))
          have V1 := Lib.hid (U8.out.call b2)
          clear d0 d1 d2 d3 d4 d5 df b2 U8 HC f2
          have C := V1.out.cells
          simp [upd', HLL.out.1, HLL.out.2.1, HLL.out.2.2.1, HLL.out.2.2.2] at C
          obtain ⟨d0, d1, d2, d3, d4, d5, df⟩ := C
          have V2 := Lib.hid (show Uf w (w9.setCell ⟨w.heap.size, 4, none⟩ (.slice q2 m2 k2)) s t _ _ _ _ _ from V1.out.put (i := 3) (by omega) R2 P2.out)
          clear R2 V1
          go_upto_region 29 with fail
          clear d0 d1 d2 d3 d4 d5 df
          generalize w9.setCell ⟨w.heap.size, 4, none⟩ (.slice q2 m2 k2) = w10 at *
          have NF := Lib.hid (show Nf w f (upd' f 3 (.slice q2 m2 k2)) from (Nf.refl f).put fun y hy => by have := P2.out y hy; omega)
          have C := V2.out.cells
          simp [upd', HLL.out.1, HLL.out.2.1, HLL.out.2.2.1, HLL.out.2.2.2] at C
          obtain ⟨d0, d1, d2, d3, d4, d5, df⟩ := C
          have hl2 : ∀ j, j < 4 → ((upd L 3 (L 3).dropLast) j).length ≤ 100000 := fun j hj => by
            by_cases e : j = 3
            · subst e; rw [upd_same, List.length_dropLast]; have := HLN.out 3 (by omega); omega
            · rw [upd_other e]; have := HLN.out j hj; omega
          have HR8 := Lib.hid (rroom_any V2.out.r hl2 false (fun hf => fromA_ne hf HQ.out.2.2.2.2.1 HQ.out.2.2.2.1 (.inl (by rw [upd_other (show 0 ≠ 3 by omega)]; exact HZ.out))) HM.out)
          rw [show rv29 s t (upd' f 3 (.slice q2 m2 k2)) = .agg #[.int .i64 (s : Int), .slice p0 n0 c0, .slice p1 n1 c1, .slice p2 n2 c2, .slice q2 m2 k2, .int .i64 t] from by simp [rv29, upd', HLL.out.1, HLL.out.2.1, HLL.out.2.2.1, HLL.out.2.2.2]] at HR8
          clear hl2
          go_wp2_with fail
          refine HR8.out.mono ?_
          rintro e w11 ⟨f', rfl, R9, N9, b9⟩
          have U9 := Lib.hid (V2.out.call b9)
          have HN9 := Lib.hid (And.intro R9 (And.intro (V2.out.off N9) (show Nf w f f' from NF.out.trans N9 (by have := V2.out.lt; omega))))
          obtain ⟨p0', n0', c0', g0, -⟩ := R9 0 (by omega)
          obtain ⟨p1', n1', c1', g1, -⟩ := R9 1 (by omega)
          obtain ⟨p2', n2', c2', g2, -⟩ := R9 2 (by omega)
          obtain ⟨p3', n3', c3', g3, -⟩ := R9 3 (by omega)
          have HGG := Lib.hid (show f' 0 = .slice p0' n0' c0' ∧ f' 1 = .slice p1' n1' c1' ∧ f' 2 = .slice p2' n2' c2' ∧ f' 3 = .slice p3' n3' c3' from ⟨g0, g1, g2, g3⟩)
          unfold rv29
          rw [g0, g1, g2, g3]
          clear d0 d1 d2 d3 d4 d5 df R9 N9 b9 V2 HR8 g0 g1 g2 g3
          obtain ⟨d0, d1, d2, d3, d4, d5, df⟩ := U9.out.cells
          obtain ⟨-, y0, y1, y2, yf⟩ := U9.out.turns
          go_wp2_with fail
          have U10 := Lib.hid ((U9.out.all t HN9.out.1 HN9.out.2.1).turn (.bool false) (.bool left) (.int .u32 (out : Int)))
          rw [HGG.out.1, HGG.out.2.1, HGG.out.2.2.1, HGG.out.2.2.2] at U10
          go_meet
          case rel => exact ⟨f', U10, Lib.hid HN9.out.2.2⟩
        · have i3 : ((N : Int) == 2 * (s : Int)) = false := by rw [beq_eq_false_iff_ne]; omega
          rw [if_neg cB] at hm
          have HM := Lib.hid hm
          clear hm hq ht0 ht1 w0 hN cA cB
          have hl2 : ∀ j, j < 4 → (L j).length ≤ 100000 := fun j hj => by
            have := HLN.out j hj; omega
          have HR8 := Lib.hid (rroom_any U8.out.r hl2 false (fun hf => fromA_ne hf HQ.out.2.2.2.2.1 HQ.out.2.2.2.1 (.inl (HZ.out))) HM.out)
          rw [show rv29 s t f = .agg #[.int .i64 (s : Int), .slice p0 n0 c0, .slice p1 n1 c1, .slice p2 n2 c2, .slice p3 n3 c3, .int .i64 t] from by simp [rv29, upd', HLL.out.1, HLL.out.2.1, HLL.out.2.2.1, HLL.out.2.2.2]] at HR8
          clear hl2
          go_wp2_with fail
          refine HR8.out.mono ?_
          rintro e w11 ⟨f', rfl, R9, N9, b9⟩
          have U9 := Lib.hid (U8.out.call b9)
          have HN9 := Lib.hid (And.intro R9 (And.intro (U8.out.off N9) (show Nf w f f' from (Nf.refl f).trans N9 (by have := U8.out.lt; omega))))
          obtain ⟨p0', n0', c0', g0, -⟩ := R9 0 (by omega)
          obtain ⟨p1', n1', c1', g1, -⟩ := R9 1 (by omega)
          obtain ⟨p2', n2', c2', g2, -⟩ := R9 2 (by omega)
          obtain ⟨p3', n3', c3', g3, -⟩ := R9 3 (by omega)
          have HGG := Lib.hid (show f' 0 = .slice p0' n0' c0' ∧ f' 1 = .slice p1' n1' c1' ∧ f' 2 = .slice p2' n2' c2' ∧ f' 3 = .slice p3' n3' c3' from ⟨g0, g1, g2, g3⟩)
          unfold rv29
          rw [g0, g1, g2, g3]
          clear d0 d1 d2 d3 d4 d5 df R9 N9 b9 U8 HR8 g0 g1 g2 g3
          obtain ⟨d0, d1, d2, d3, d4, d5, df⟩ := U9.out.cells
          obtain ⟨-, y0, y1, y2, yf⟩ := U9.out.turns
          go_wp2_with fail
          have U10 := Lib.hid ((U9.out.all t HN9.out.1 HN9.out.2.1).turn (.bool false) (.bool left) (.int .u32 (out : Int)))
          rw [HGG.out.1, HGG.out.2.1, HGG.out.2.2.1, HGG.out.2.2.2] at U10
          go_meet
          case rel => exact ⟨f', U10, Lib.hid HN9.out.2.2⟩
  case rest =>
  obtain ⟨f1, U0, N0⟩ := hcut
  clear d0 d1 d2 d3 d4 d5 df U8 ht0 w0 HC0 HC2 HC3
  obtain ⟨p0', n0', c0', g0, l0', -, r0', -⟩ := U0.out.r 0 (by omega)
  obtain ⟨p1', n1', c1', g1, -⟩ := U0.out.r 1 (by omega)
  obtain ⟨p2', n2', c2', g2, -⟩ := U0.out.r 2 (by omega)
  obtain ⟨p3', n3', c3', g3, -⟩ := U0.out.r 3 (by omega)
  have HGG := Lib.hid (show f1 0 = .slice p0' n0' c0' ∧ f1 1 = .slice p1' n1' c1' ∧ f1 2 = .slice p2' n2' c2' ∧ f1 3 = .slice p3' n3' c3' from ⟨g0, g1, g2, g3⟩)
  have C := U0.out.cells
  simp [upd', HGG.out.1, HGG.out.2.1, HGG.out.2.2.1, HGG.out.2.2.2] at C
  obtain ⟨d0, d1, d2, d3, d4, d5, df⟩ := C
  have HNW := Lib.hid (rnewest_any (c := c0') l0' (by have := HN'.out; omega) r0' x)
  have hl10 : (x :: L' 0).length = n0' + 1 := by rw [List.length_cons, l0']
  clear l0' r0' g0 g1 g2 g3
  go_wp2_with fail
  refine HNW.out.mono ?_
  rintro e w13 ⟨q4, k4, rfl, R13, b13⟩
  have P13 := Lib.hid (show ∀ y, q4 = some y → w.heap.size + 3 < y.block from fun y hy => by subst hy; have := U0.out.lt; have := (R13.lt y.block rfl).1; omega)
  have U13 := Lib.hid (U0.out.call b13)
  have U14 := Lib.hid (show Uf w (w13.setCell ⟨w.heap.size, 1, none⟩ (.slice q4 (n0' + 1) k4)) s t _ _ _ _ _ from U13.out.put (i := 0) (by omega) (Lv.of R13 hl10) P13.out)
  clear d0 d1 d2 d3 d4 d5 df b13 U0 HNW R13
  have C := U13.out.cells
  simp [upd', HGG.out.1, HGG.out.2.1, HGG.out.2.2.1, HGG.out.2.2.2] at C
  obtain ⟨d0, d1, d2, d3, d4, d5, df⟩ := C
  go_upto_region 31 with fail
  clear d0 d1 d2 d3 d4 d5 df U13
  generalize w13.setCell ⟨w.heap.size, 1, none⟩ (.slice q4 (n0' + 1) k4) = w14 at *
  have C := U14.out.cells
  simp [upd', HGG.out.1, HGG.out.2.1, HGG.out.2.2.1, HGG.out.2.2.2] at C
  obtain ⟨d0, d1, d2, d3, d4, d5, df⟩ := C
  obtain ⟨m0', m1', m2', m3', m4', m5', mf⟩ := U14.out.boxes
  obtain ⟨⟨y0, y1, y2, yf⟩, y3, y4, y5, yg⟩ := U14.out.turns
  apply Gho.region_one (R := fun u => Fin w u (upd L' 0 (x :: L' 0)) (upd' f1 0 (.slice q4 (n0' + 1) k4)) (.int .i64 (s : Int)) (.slice q4 (n0' + 1) k4) (.slice p1' n1' c1') (.slice p2' n2' c2') (.slice p3' n3' c3') (.int .i64 t) (.bool false) (.bool left) (.int .u32 (out : Int)))
  case first =>
    go_region_with fail
    all_goals
      dsimp only [midQ]
      first
      | exact ⟨rfl, U14.out.finA⟩
      | exact ⟨rfl, U14.out.finB⟩
  case rest =>
  intro u15 HF
  obtain ⟨z0, z1, z2, z3, z4, z5, t0, t1, t2⟩ := HF.c
  go_wp2_with fail
  refine bodyPost_ret (v := .tuple #[.agg #[.int .i64 (s : Int), .slice q4 (n0' + 1) k4, .slice p1' n1' c1', .slice p2' n2' c2', .slice p3' n3' c3', .int .i64 t], tv false left (out : Int)]) (by simp [results, Try.results121, go_sem, z0, z1, z2, z3, z4, z5, t0, t1, t2]) rfl ⟨_, ?_, HF.r, N0.out.put fun y hy => by have := P13.out y hy; omega, HF.b⟩
  simp [upd', HGG.out.2.1, HGG.out.2.2.1, HGG.out.2.2.2]
end Go.Proofs.Ytggimkfepcgaoaa.Arc
