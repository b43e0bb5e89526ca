/-
  Victims (layer 18): VictimOrders, VictimChooses.
-/
import Derived.Test.YtlokilkhlhhjgaaVicW
set_option linter.unusedVariables false
set_option linter.unusedSimpArgs false
namespace Go.Proofs.Ytlokilkhlhhjgaa.Vic
open Go Go.RowKit Kit Go.Maps
/-- the entries that a law is given -/
theorem rows_rd {w : World} {a : Option Addr} {len cap : Nat} (h : (a = none ∧ len = 0) ∨ ∃ x, a = some x ∧ len ≤ cap ∧ cap ≤ maxLen ∧ ∀ i, i < len → ∃ (z0 : Int) (z1 : Int), w.cell? (x.add (i * 2 + 0)) = some (.int .u32 z0) ∧ w.cell? (x.add (i * 2 + 1)) = some (.int .i64 z1) ∧ (Lit.int .u32 z0).wf = true ∧ (Lit.int .i64 z1).wf = true) :
    ∃ l : List Wg, l.length = len ∧ Rd w a l ∧ Wf l := by
  rcases h with ⟨rfl, rfl⟩ | ⟨x, rfl, -, -, h⟩
  · exact ⟨[], rfl, Rd.nil _ _, fun i p hp => by simp at hp⟩
  · have : ∀ n, n ≤ len → ∃ l : List Wg, l.length = n ∧ Rd w (some x) l ∧ Wf l := by
      intro n
      induction n with
      | zero => exact fun _ => ⟨[], rfl, Rd.nil _ _, fun i p hp => by simp at hp⟩
      | succ n ih =>
        intro hn
        obtain ⟨l, h1, h2, h3⟩ := ih (by omega)
        obtain ⟨z0, z1, e0, e1, w0, w1⟩ := h n (by omega)
        have hb : x.block < w.heap.size := by
          have hs : ∃ o, w.heap[x.block]? = some o := by
            rw [Nat.add_zero] at e0
            unfold World.cell? at e0
            rw [add_block] at e0
            cases ho : w.heap[x.block]? with
            | none => rw [ho] at e0; simp at e0
            | some o => exact ⟨o, rfl⟩
          obtain ⟨o, ho⟩ := hs
          exact (Array.getElem?_eq_some_iff.1 ho).1
        refine ⟨l ++ [(z0, z1)], by simp [h1], fun i p hp => ?_, fun i p hp => ?_⟩
        · rcases Nat.lt_or_ge i l.length with hi | hi
          · rw [List.getElem?_append_left hi] at hp
            exact h2 i p hp
          · rw [List.getElem?_append_right hi] at hp
            match hq : i - l.length, hp with
            | 0, hp =>
              simp at hp
              subst hp
              obtain rfl : i = n := by omega
              exact ⟨x, rfl, hb, e0, e1⟩
        · rcases Nat.lt_or_ge i l.length with hi | hi
          · rw [List.getElem?_append_left hi] at hp
            exact h3 i p hp
          · rw [List.getElem?_append_right hi] at hp
            match hq : i - l.length, hp with
            | 0, hp =>
              simp at hp
              subst hp
              exact ⟨w0, w1⟩
    exact this len (Nat.le_refl _)
theorem Wf.append {l r : List Wg} (h : Wf l) (k : Wf r) : Wf (l ++ r) := fun i p hp => by
  rcases Nat.lt_or_ge i l.length with hi | hi
  · rw [List.getElem?_append_left hi] at hp
    exact h i p hp
  · rw [List.getElem?_append_right hi] at hp
    exact k _ p hp
/-- known() at every later world -/
def Kn (W : World) : Prop := ∀ w', Below W.heap.size W w' → Calls Try.prog 8 #[] w' fun e v => e = .returned (.bool true) ∧ Below w'.heap.size w' v
/-- the box of the entries -/
def Be (w : World) (g : Nat) (p1 : Option Addr) (m1 c1 : Nat) (p2 : Option Addr) (m2 c2 : Nat) : Prop := w.heap[g]? = some (.cells #[.slice p1 m1 c1, .slice p2 m2 c2] 24 (0, 0))
theorem Be.new (W : World) (p1 : Option Addr) (m1 c1 : Nat) (p2 : Option Addr) (m2 c2 : Nat) : Be (W.alloc (.cells #[.slice p1 m1 c1, .slice p2 m2 c2] 24)) W.heap.size p1 m1 c1 p2 m2 c2 := (MapKept.heap_alloc W _).1
theorem Be.below {w w' : World} {g : Nat} {p1 p2 : Option Addr} {m1 c1 m2 c2 : Nat} (h : Be w g p1 m1 c1 p2 m2 c2) (hb : Below w.heap.size w w') : Be w' g p1 m1 c1 p2 m2 c2 := (hb.block g (Array.getElem?_eq_some_iff.1 h).1).trans h
theorem Be.two {w : World} {g : Nat} {p1 p2 : Option Addr} {m1 c1 m2 c2 : Nat} (h : Be w g p1 m1 c1 p2 m2 c2) : w.cell? ⟨g, 0, none⟩ = some (.slice p1 m1 c1) ∧ w.cell? ⟨g, 1, none⟩ = some (.slice p2 m2 c2) := by
  unfold Be at h
  exact ⟨by simp [World.cell?, h], by simp [World.cell?, h]⟩
/-- a later world: the box stands, and nothing of before was written -/
def Lt (W w : World) (p1 : Option Addr) (m1 c1 : Nat) (p2 : Option Addr) (m2 c2 : Nat) : Prop := Be w W.heap.size p1 m1 c1 p2 m2 c2 ∧ Below W.heap.size W w
theorem Lt.new (W : World) (p1 : Option Addr) (m1 c1 : Nat) (p2 : Option Addr) (m2 c2 : Nat) : Lt W (W.alloc (.cells #[.slice p1 m1 c1, .slice p2 m2 c2] 24)) p1 m1 c1 p2 m2 c2 := ⟨Be.new W p1 m1 c1 p2 m2 c2, box_below _ _ _⟩
theorem Lt.below {W w w' : World} {p1 p2 : Option Addr} {m1 c1 m2 c2 : Nat} (h : Lt W w p1 m1 c1 p2 m2 c2) (hb : Below w.heap.size w w') : Lt W w' p1 m1 c1 p2 m2 c2 := ⟨h.1.below hb, tr h.2 hb⟩
theorem Lt.conj {W w' : World} {p1 p2 : Option Addr} {m1 c1 m2 c2 : Nat} (h : Lt W w' p1 m1 c1 p2 m2 c2) : w'.cell? ⟨W.heap.size, 0, none⟩ = some (.slice p1 m1 c1) ∧ w'.cell? ⟨W.heap.size, 1, none⟩ = some (.slice p2 m2 c2) ∧ Lt W w' p1 m1 c1 p2 m2 c2 := ⟨h.1.two.1, h.1.two.2, h⟩
theorem Lt.keep {W v w' : World} {p1 p2 : Option Addr} {m1 c1 m2 c2 : Nat} (hb : Below v.heap.size v w') (h : v.cell? ⟨W.heap.size, 0, none⟩ = some (.slice p1 m1 c1) ∧ v.cell? ⟨W.heap.size, 1, none⟩ = some (.slice p2 m2 c2) ∧ Lt W v p1 m1 c1 p2 m2 c2) : w'.cell? ⟨W.heap.size, 0, none⟩ = some (.slice p1 m1 c1) ∧ w'.cell? ⟨W.heap.size, 1, none⟩ = some (.slice p2 m2 c2) ∧ Lt W w' p1 m1 c1 p2 m2 c2 := Lt.conj (h.2.2.below hb)
theorem Lt.b {W v : World} {p1 p2 : Option Addr} {m1 c1 m2 c2 : Nat} (h : v.cell? ⟨W.heap.size, 0, none⟩ = some (.slice p1 m1 c1) ∧ v.cell? ⟨W.heap.size, 1, none⟩ = some (.slice p2 m2 c2) ∧ Lt W v p1 m1 c1 p2 m2 c2) : Below W.heap.size W v := h.2.2.2
set_option maxRecDepth 100000 in
theorem lchooses_any {W : World} {m1 c1 m2 c2 : Nat} {p1 p2 : Option Addr} {l1 l2 : List Wg} {k n b : Int} (h1 : l1.length = m1) (h2 : l2.length = m2) (r1 : Rd W p1 l1) (r2 : Rd W p2 l2) (w1 : Wf l1) (w2 : Wf l2) (hk : Kn W) :
    Calls Try.prog 4 #[ents p1 m1 c1 p2 m2 c2, .int .u32 k, .int .i64 n, .int .i64 b] W fun e w' => e = .returned (.bool true) ∧ Below W.heap.size W w' := by
  have HK := Lib.hid hk
  clear hk
  by_cases hfew : m1 ≤ 60 ∧ m2 ≤ 60
  · obtain ⟨f1, f2⟩ := hfew
    have HF := Lib.hid (fun (v : World) => few_yes (c1 := c1) (c2 := c2) (p1 := p1) (p2 := p2) f1 f2 v)
    have HFR := Lib.hid (fun (v : World) (hb : Below W.heap.size W v) => rfair_any (W := v) (c1 := c1) (c2 := c2) h1 h2 (r1.below hb) (r2.below hb) (by omega) (by omega))
    have HCN := Lib.hid (fun (v : World) (hb : Below W.heap.size W v) hno => chooses_no (W := v) (c1 := c1) (c2 := c2) (k := k) (n := n) (b := b) h1 h2 (r1.below hb) (r2.below hb) (by omega) (by omega) (w1.append w2) hno)
    have HRC := Lib.hid (fun (v : World) (hb : Below W.heap.size W v) hc => rchoose_any (W := v) (c1 := c1) (c2 := c2) k n b h1 h2 (r1.below hb) (r2.below hb) (by omega) (by omega) hc)
    have HCY := Lib.hid (fun (v : World) (hb : Below W.heap.size W v) hok m hm m3 c3 p3 h3 r3 => chooses_ok (W := v) (c1 := c1) (c2 := c2) (c3 := c3) (p3 := p3) (m3 := m3) (m := m) (k := k) (n := n) (b := b) h1 h2 (r1.below hb) (r2.below hb) (by omega) (by omega) (w1.append w2) hok hm h3 r3)
    clear r1 r2 w1 w2 h1 h2
    go_enter Try.func4, Try.ntmps4
    go_wp2_with fail
    have L0 := Lib.hid (Lt.new W p1 m1 c1 p2 m2 c2)
    refine (HF.out _).mono ?_
    rintro e v1 ⟨rfl, b1⟩
    have L1 := Lib.hid (L0.out.below b1)
    obtain ⟨x0, x1⟩ := L1.out.1.two
    clear b1
    go_wp2_with fail
    refine (HFR.out _ L1.out.2).mono ?_
    rintro e v2 ⟨⟨b0, rfl, hv⟩, b2⟩
    have L2 := Lib.hid (L1.out.below b2)
    have HV := Lib.hid hv
    clear x0 x1 b2 hv
    obtain ⟨x0, x1⟩ := L2.out.1.two
    have hcase : (b0 = false ∨ (b0 = true ∧ n < 0) ∨ (b0 = true ∧ ¬ n < 0 ∧ b < 0)) ∨ (b0 = true ∧ ¬ n < 0 ∧ ¬ b < 0) := by cases b0 <;> simp; omega
    rcases hcase with hbad | ⟨rfl, g1, g2⟩
    · have hno : ¬ VOk n b (l1 ++ l2) := fun h => by
        obtain ⟨q1, q2, q3⟩ := h
        have := HV.out.2 q3
        subst this
        rcases hbad with h | ⟨_, h⟩ | ⟨_, _, h⟩
        · cases h
        · omega
        · omega
      have HNO := Lib.hid hno
      clear hno
      rcases hbad with rfl | ⟨rfl, h⟩ | ⟨rfl, h', h⟩
      all_goals (
        go_wp2_with fail
        refine (HCN.out _ L2.out.2 HNO.out).mono ?_
        rintro e v3 ⟨rfl, b3⟩
        have L3 := Lib.hid (L2.out.below b3)
        clear b3 x0 x1
        go_wp2_with fail
        refine (HK.out _ L3.out.2).mono ?_
        rintro e v4 ⟨rfl, b4⟩
        have B4 := Lib.hid (tr L3.out.2 b4)
        clear b4
        go_wp2_with fail
        go_ret
        exact ⟨rfl, B4.out⟩)
    · have OK := Lib.hid (show VOk n b (l1 ++ l2) from ⟨by omega, by omega, HV.out.1 rfl⟩)
      go_wp2_with fail
      clear x0 x1
      go_region_held3 (fun w' => w'.cell? ⟨W.heap.size, 0, none⟩ = some (.slice p1 m1 c1) ∧ w'.cell? ⟨W.heap.size, 1, none⟩ = some (.slice p2 m2 c2) ∧ Lt W w' p1 m1 c1 p2 m2 c2)
        (first
          | (exact Lt.conj (L2.out.below (Below.drew (Below.refl _ _))))
          | (exact Lt.keep o1 (by assumption))
          | assumption
          | fail)
        (first
          | (go_at_call 16; refine (HRC.out _ (Lt.b (by assumption)) (Costs.of_fin OK.out.2.2)).mono ?_; rintro e w' ⟨⟨m, v, rfl, hm, ks⟩, o1⟩; obtain ⟨q, kk, rfl, rq⟩ := ks_ru ks; have HCC := Lib.hid (fun x (hx : Below W.heap.size W x) hb => HCY.out x hx OK.out m hm _ kk q rfl (rq.below hb)); clear hm ks rq; generalize (slots ((notk k (l1 ++ l2)).take m)).length = sn at *)
          | (go_at_call 15; refine (HCC.out _ (Lt.b (by assumption)) (by first | exact Below.refl _ _ | assumption)).mono ?_; rintro e w' ⟨rfl, o1⟩)
          | (go_at_call 8; refine (HK.out _ (Lt.b (by assumption))).mono ?_; rintro e w' ⟨rfl, o1⟩)
          | fail)
      have BF := Lib.hid (Lt.b (v := w') (by assumption))
      go_wp2_with fail
      go_ret
      exact ⟨rfl, BF.out⟩
  · have HF := Lib.hid (fun (v : World) => few_no (c1 := c1) (c2 := c2) (p1 := p1) (p2 := p2) hfew v)
    clear hfew
    go_enter Try.func4, Try.ntmps4
    go_wp2_with fail
    have L0 := Lib.hid (Lt.new W p1 m1 c1 p2 m2 c2)
    refine (HF.out _).mono ?_
    rintro e v1 ⟨rfl, b1⟩
    have L1 := Lib.hid (L0.out.below b1)
    clear b1
    go_wp2_with fail
    refine (HK.out _ L1.out.2).mono ?_
    rintro e v4 ⟨rfl, b4⟩
    have B4 := Lib.hid (tr L1.out.2 b4)
    clear b4
    go_wp2_with fail
    go_ret
    exact ⟨rfl, B4.out⟩
end Go.Proofs.Ytlokilkhlhhjgaa.Vic
