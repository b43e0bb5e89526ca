/-
  Victims (layer 18): VictimOrders.
-/
import Derived.Test.YtlokilkhlhhjgaaVicY
set_option linter.unusedVariables false
set_option linter.unusedSimpArgs false
namespace Go.Proofs.Ytlokilkhlhhjgaa.Vic
open Go Go.RowKit Kit Go.Maps
theorem Lt.lt {W w : World} {p1 p2 : Option Addr} {m1 c1 m2 c2 : Nat} (h : Lt W w p1 m1 c1 p2 m2 c2) : W.heap.size < w.heap.size := (Array.getElem?_eq_some_iff.1 h.1).1
/-- two boxes -/
def L2x (W w : World) (g : Nat) (p1 : Option Addr) (m1 c1 : Nat) (p2 : Option Addr) (m2 c2 : Nat) (q1 : Option Addr) (k1 : Nat) (q2 : Option Addr) (k2 : Nat) (l1 l2 : List Wg) : Prop := Lt W w p1 m1 c1 p2 m2 c2 ∧ Be w g q1 m1 k1 q2 m2 k2 ∧ Rd w q1 l1 ∧ Rd w q2 l2
theorem L2x.below {W w w' : World} {g : Nat} {p1 p2 q1 q2 : Option Addr} {m1 c1 m2 c2 k1 k2 : Nat} {l1 l2 : List Wg} (h : L2x W w g p1 m1 c1 p2 m2 c2 q1 k1 q2 k2 l1 l2) (hb : Below w.heap.size w w') : L2x W w' g p1 m1 c1 p2 m2 c2 q1 k1 q2 k2 l1 l2 := ⟨h.1.below hb, h.2.1.below hb, h.2.2.1.below hb, h.2.2.2.below hb⟩
theorem L2x.start {W v : World} {p1 p2 q1 q2 : Option Addr} {m1 c1 m2 c2 k1 k2 : Nat} {l1 l2 : List Wg} (h : Lt W v p1 m1 c1 p2 m2 c2) (a1 : Rd v q1 l1) (a2 : Rd v q2 l2) : L2x W (v.alloc (.cells #[.slice q1 m1 k1, .slice q2 m2 k2] 24)) v.heap.size p1 m1 c1 p2 m2 c2 q1 k1 q2 k2 l1 l2 :=
  ⟨h.below (box_below _ _ _), Be.new _ _ _ _ _ _ _, a1.below (box_below _ _ _), a2.below (box_below _ _ _)⟩
theorem L2x.facts {W w : World} {g : Nat} {p1 p2 q1 q2 : Option Addr} {m1 c1 m2 c2 k1 k2 : Nat} {l1 l2 : List Wg} (h : L2x W w g p1 m1 c1 p2 m2 c2 q1 k1 q2 k2 l1 l2) : w.cell? ⟨W.heap.size, 0, none⟩ = some (.slice p1 m1 c1) ∧ w.cell? ⟨W.heap.size, 1, none⟩ = some (.slice p2 m2 c2) ∧ w.cell? ⟨g, 0, none⟩ = some (.slice q1 m1 k1) ∧ w.cell? ⟨g, 1, none⟩ = some (.slice q2 m2 k2) :=
  ⟨h.1.1.two.1, h.1.1.two.2, h.2.1.two.1, h.2.1.two.2⟩
/-- a row whose costs are written -/
def Wq (w : World) (g n : Nat) : Prop := ∃ cur, w.heap[g]? = some (.cells cur 34 (0, 0)) ∧ ∀ i, i < n → ∃ c, cur[i * 2 + 1]? = some (.int .i64 c)
theorem Wq.of {w : World} {g n cap B : Nat} {l : List Wg} (h : Ow w B (.slice (some ⟨g, 0, none⟩) n cap) l) : Wq w g n ∧ B ≤ g := by
  obtain ⟨hx, ⟨hv, hn⟩ | ⟨g', cap', cur, hv, hb, hg, hc, hm, hs, ht⟩⟩ := h
  · cases hv
  · cases hv
    refine ⟨⟨cur, hg, fun i hi => ?_⟩, hb⟩
    obtain ⟨e1, e2⟩ := cellsW_at (l := l) (i := i) (List.getElem?_eq_getElem hi)
    rw [← ht, List.getElem?_take] at e2
    rw [if_pos (by omega)] at e2
    exact ⟨_, by simpa using e2⟩
theorem Wq.at_ {w : World} {g n i : Nat} (h : Wq w g n) (hi : i < n) : ∃ c, w.cell? ⟨g, i * 2 + 1, none⟩ = some (.int .i64 c) ∧ w.frozen? ⟨g, i * 2 + 1, none⟩ = false := by
  obtain ⟨cur, h1, h2⟩ := h
  obtain ⟨c, hc⟩ := h2 i hi
  exact ⟨c, by simp [World.cell?, h1, hc], by simp [World.frozen?, h1]⟩
theorem Wq.set {w : World} {g n : Nat} (h : Wq w g n) (i : Nat) (c : Int) : Wq (w.setCell ⟨g, i * 2 + 1, none⟩ (.int .i64 c)) g n := by
  obtain ⟨cur, h1, h2⟩ := h
  refine ⟨_, heap_set2 (j := i * 2 + 1) h1 _, fun k hk => ?_⟩
  obtain ⟨c', hc⟩ := h2 k hk
  rw [Array.getElem?_setIfInBounds]
  split
  · next he =>
    have hlt := (Array.getElem?_eq_some_iff.1 hc).1
    rw [if_pos (by omega)]
    exact ⟨c, rfl⟩
  · exact ⟨c', hc⟩
set_option maxRecDepth 100000 in
set_option maxHeartbeats 1000000 in
theorem lorders_any {W : World} {m1 c1 m2 c2 : Nat} {p1 p2 : Option Addr} {l1 l2 : List Wg} {k : Int} (h1 : l1.length = m1) (h2 : l2.length = m2) (r1 : Rd W p1 l1) (r2 : Rd W p2 l2) (w1 : Wf l1) (w2 : Wf l2) (hk : Kn W) :
    Calls Try.prog 3 #[ents p1 m1 c1 p2 m2 c2, .int .u32 k] W fun e w' => e = .returned (.bool true) ∧ Below W.heap.size W w' := by
  have HK := Lib.hid hk
  clear hk
  by_cases hfew : m1 ≤ 60 ∧ m2 ≤ 60
  · obtain ⟨f1, f2⟩ := hfew
    have HF := Lib.hid (fun (v : World) => few_yes (c1 := c1) (c2 := c2) (p1 := p1) (p2 := p2) f1 f2 v)
    have HOW := Lib.hid (fun (v : World) (hb : Below W.heap.size W v) => own_any (W := v) (c1 := c1) (c2 := c2) h1 h2 (r1.below hb) (r2.below hb) (by omega) (by omega))
    have HFR := Lib.hid (fun (v : World) (hb : Below W.heap.size W v) => rfair_any (W := v) (c1 := c1) (c2 := c2) h1 h2 (r1.below hb) (r2.below hb) (by omega) (by omega))
    have HPO := Lib.hid (fun (v : World) q1 k1 q2 k2 (a1 : Rd v q1 l1) (a2 : Rd v q2 l2) => Order_any (W := v) (c1 := k1) (c2 := k2) (p1 := q1) (p2 := q2) (k := k) h1 h2 a1 a2 (by omega) (by omega) (w1.append w2))
    have HRO := Lib.hid (fun (v : World) (hb : Below W.heap.size W v) => rorder_any (W := v) (c1 := c1) (c2 := c2) k h1 h2 (r1.below hb) (r2.below hb) (by omega) (by omega))
    have HOR := Lib.hid (fun (v : World) (hb : Below W.heap.size W v) hf p3 m3 c3 h3 r3 => orders_any (W := v) (c1 := c1) (c2 := c2) (p3 := p3) (m3 := m3) (c3 := c3) (k := k) h1 h2 (r1.below hb) (r2.below hb) (by omega) (by omega) (w1.append w2) hf h3 r3)
    have HS1 := Lib.hid (fun (v : World) q1 k1 (a1 : Rd v q1 l1) (hb : Below W.heap.size W v) => wsame_any (w := v) (c1 := k1) (c2 := c1) (p1 := q1) h1 h1 a1 (r1.below hb) (by omega) (by omega))
    have HS2 := Lib.hid (fun (v : World) q1 k1 (a1 : Rd v q1 l2) (hb : Below W.heap.size W v) => wsame_any (w := v) (c1 := k1) (c2 := c2) (p1 := q1) h2 h2 a1 (r2.below hb) (by omega) (by omega))
    have HLN := Lib.hid (show (l1 ++ l2).length ≤ 200 from by rw [List.length_append]; omega)
    clear r1 r2 w1 w2 h1 h2
    go_enter Try.func3, Try.ntmps3
    go_wp2_with fail
    have L0 := Lib.hid (Lt.new W p1 m1 c1 p2 m2 c2)
    refine (HF.out _).mono ?_
    rintro e v1 ⟨rfl, b1⟩
    have L1 := Lib.hid (L0.out.below b1)
    obtain ⟨x0, x1⟩ := L1.out.1.two
    clear b1
    go_wp2_with fail
    refine (HOW.out _ L1.out.2).mono ?_
    rintro e v2 ⟨⟨q1, k1, q2, k2, rfl, a1, a2⟩, b2⟩
    have L2 := Lib.hid (L1.out.below b2)
    have A1 := Lib.hid (fun (v : World) (hb : Below v2.heap.size v2 v) => a1.below hb)
    have A2 := Lib.hid (fun (v : World) (hb : Below v2.heap.size v2 v) => a2.below hb)
    clear x0 x1 b2 a1 a2
    obtain ⟨x0, x1⟩ := L2.out.1.two
    have hl2 := L2.out.lt
    have S2 := Lib.hid (L2x.start (k1 := k1) (k2 := k2) L2.out (A1.out _ (Below.refl _ _)) (A2.out _ (Below.refl _ _)))
    clear A1 A2
    go_wp2_with fail
    refine (HFR.out _ S2.out.1.2).mono ?_
    rintro e v3 ⟨⟨fine, rfl, hv⟩, b3⟩
    have S3 := Lib.hid (S2.out.below b3)
    have HV := Lib.hid hv
    clear x0 x1 b3 hv S2 hl2
    generalize v2.heap.size = g at *
    obtain ⟨x0, x1, x2, x3⟩ := S3.out.facts
    go_wp2_with fail
    refine (HPO.out v3 q1 k1 q2 k2 S3.out.2.2.1 S3.out.2.2.2).mono ?_
    rintro e v4 ⟨hO, b4⟩
    have S4 := Lib.hid (S3.out.below b4)
    clear x0 x1 x2 x3
    cases fine with
    | false =>
      have hno : ¬ Fin (l1 ++ l2) (l1 ++ l2).length := fun h => by have := HV.out.2 h; cases this
      obtain rfl := hO.2 hno
      clear hO hno b4
      obtain ⟨x0, x1, x2, x3⟩ := S4.out.facts
      go_wp2_with fail
      refine wp_loop_rounds 1 ?_
      rw [rounds_succ]
      go_wp2_with fail
      refine (HS1.out v4 q1 k1 S4.out.2.2.1 S4.out.1.2).mono ?_
      rintro e v5 ⟨⟨v, rfl, hv⟩, b5⟩
      obtain rfl : v = true := hv.2 (by trivial)
      have S5 := Lib.hid (S4.out.below b5)
      clear x0 x1 x2 x3 b5 hv
      obtain ⟨x0, x1, x2, x3⟩ := S5.out.facts
      go_wp2_with fail
      refine (HS2.out v5 q2 k2 S5.out.2.2.2 S5.out.1.2).mono ?_
      rintro e v6 ⟨⟨v, rfl, hv⟩, b6⟩
      obtain rfl : v = true := hv.2 (by trivial)
      have S6 := Lib.hid (S5.out.below b6)
      clear x0 x1 x2 x3 b6 hv
      go_wp2_with fail
      refine (HK.out _ S6.out.1.2).mono ?_
      rintro e v7 ⟨rfl, b7⟩
      have B7 := Lib.hid (tr S6.out.1.2 b7)
      clear b7
      go_wp2_with fail
      go_ret
      exact ⟨rfl, B7.out⟩
    | true =>
      have HFI := Lib.hid (HV.out.1 rfl)
      obtain ⟨v, rfl, o4⟩ := hO.1 HFI.out
      obtain ⟨q, nn, kk, rfl, hnn, -, -⟩ := o4.form
      have HQ := Lib.hid (fun hn => ow_head o4 hn)
      have HW := Lib.hid (fun gg (he : q = some ⟨gg, 0, none⟩) => Wq.of (by rw [he] at o4; exact o4))
      have HNN := Lib.hid hnn
      have hnb : nn ≤ 1000 := by have := notk_len k (l1 ++ l2); have := HLN.out; omega
      clear hnn
      have B4 := Lib.hid b4
      clear hO b4 o4
      go_wp2_with fail
      go_loopw [9] (fun v wr => ∃ i : Nat, i ≤ nn ∧ v = .int .i64 i ∧ (∀ gg, q = some ⟨gg, 0, none⟩ → Wq wr gg nn) ∧ Below v3.heap.size v3 wr) (fun v _ => nn - (intOf v).toNat)
      case atStart => exact ⟨0, by omega, rfl, fun gg he => (HW.out gg he).1, B4.out⟩
      case round =>
        obtain ⟨i, hi, rfl, hQ, bW⟩ := hrel
        have S5 := Lib.hid (S3.out.below bW)
        have BW := Lib.hid bW
        have WQ := Lib.hid hQ
        clear bW hQ
        have i0 : (0 : Int) ≤ (i : Int) := by omega
        by_cases hin : i = nn
        · subst hin
          obtain ⟨x0, x1, x2, x3⟩ := S5.out.facts
          go_wp2_with fail
          refine (HS1.out _ q1 k1 S5.out.2.2.1 S5.out.1.2).mono ?_
          rintro e v5 ⟨⟨v, rfl, hv⟩, b5⟩
          obtain rfl : v = true := hv.2 (by trivial)
          have S6 := Lib.hid (S5.out.below b5)
          clear x0 x1 x2 x3 b5 hv
          obtain ⟨x0, x1, x2, x3⟩ := S6.out.facts
          go_wp2_with fail
          refine (HS2.out v5 q2 k2 S6.out.2.2.2 S6.out.1.2).mono ?_
          rintro e v6 ⟨⟨v, rfl, hv⟩, b6⟩
          obtain rfl : v = true := hv.2 (by trivial)
          have S7 := Lib.hid (S6.out.below b6)
          clear x0 x1 x2 x3 b6 hv
          obtain ⟨x0, x1, x2, x3⟩ := S7.out.facts
          go_wp2_with fail
          clear x0 x1 x2 x3
          go_region_held3 (fun w' => w'.cell? ⟨W.heap.size, 0, none⟩ = some (.slice p1 m1 c1) ∧ w'.cell? ⟨W.heap.size, 1, none⟩ = some (.slice p2 m2 c2) ∧ Lt W w' p1 m1 c1 p2 m2 c2)
            (first
              | (exact Lt.conj (S7.out.1.below (Below.drew (Below.refl _ _))))
              | (exact Lt.keep o1 (by assumption))
              | assumption
              | fail)
            (first
              | (go_at_call 14; refine (HRO.out _ (Lt.b (by assumption))).mono ?_; rintro e w' ⟨v, rfl, ow, o1⟩; obtain ⟨qo, no, ko, rfl, hno, -, -⟩ := ow.form; have HCC := Lib.hid (fun x (hx : Below W.heap.size W x) hb => HOR.out x hx HFI.out qo no ko hno.symm ((rd_ow ow).below hb)); clear hno ow)
              | (go_at_call 13; refine (HCC.out _ (Lt.b (by assumption)) (by first | exact Below.refl _ _ | assumption)).mono ?_; rintro e w' ⟨rfl, o1⟩)
              | (go_at_call 8; refine (HK.out _ (Lt.b (by assumption))).mono ?_; rintro e w' ⟨rfl, o1⟩)
              | fail)
          have BF := Lib.hid (Lt.b (v := w') (by assumption))
          go_wp2_with fail
          go_ret
          exact ⟨rfl, BF.out⟩
        · have hlt : i < nn := by omega
          have hlt' : (i : Int) < (nn : Int) := by omega
          obtain ⟨gg, rfl, hg3, -⟩ := HQ.out (by omega)
          obtain ⟨c, e1, e2⟩ := (WQ.out gg rfl).at_ hlt
          go_wp2_with fail
          go_roundw
          case rel =>
            refine ⟨i + 1, by omega, by go_num, fun g' he => ?_, BW.out.setCell (p := ⟨gg, i * 2 + 1, none⟩) hg3 _⟩
            cases he
            exact (WQ.out _ rfl).set i _
          case measure => simp [intOf]; omega
  · have HF := Lib.hid (fun (v : World) => few_no (c1 := c1) (c2 := c2) (p1 := p1) (p2 := p2) hfew v)
    clear hfew
    go_enter Try.func3, Try.ntmps3
    go_wp2_with fail
    have L0 := Lib.hid (Lt.new W p1 m1 c1 p2 m2 c2)
    refine (HF.out _).mono ?_
    rintro e v1 ⟨rfl, b1⟩
    have L1 := Lib.hid (L0.out.below b1)
    clear b1
    go_wp2_with fail
    refine (HK.out _ L1.out.2).mono ?_
    rintro e v4 ⟨rfl, b4⟩
    have B4 := Lib.hid (tr L1.out.2 b4)
    clear b4
    go_wp2_with fail
    go_ret
    exact ⟨rfl, B4.out⟩
end Go.Proofs.Ytlokilkhlhhjgaa.Vic
