/-
  Victims (layer 18): how many victims there are; victims.
-/
import Derived.Test.YtlokilkhlhhjgaaVicL
set_option linter.unusedVariables false
set_option linter.unusedSimpArgs false
namespace Go.Proofs.Ytlokilkhlhhjgaa.Vic
open Go Go.RowKit Kit Go.Maps
/-- what entries cost together -/
def tot : List Wg → Int
  | [] => 0
  | x :: l => x.2 + tot l
theorem tot_append (l r : List Wg) : tot (l ++ r) = tot l + tot r := by
  induction l with
  | nil => simp [tot]
  | cons x l ih => simp only [List.cons_append, tot, ih]; omega
theorem tot_succ {l : List Wg} {j : Nat} {p : Wg} (hp : l[j]? = some p) : tot (l.take (j + 1)) = tot (l.take j) + p.2 := by
  rw [List.take_add_one, hp, tot_append]; simp [tot]
/-- costs as they may be -/
def Costs (l : List Wg) : Prop := ∀ p ∈ l, 0 ≤ p.2 ∧ p.2 ≤ 1099511627776
theorem Costs.tot {l : List Wg} (h : Costs l) : 0 ≤ tot l ∧ tot l ≤ (l.length : Int) * 1099511627776 := by
  induction l with
  | nil => simp [Vic.tot]
  | cons x l ih =>
    have h1 := h x (by simp)
    have h2 := ih fun p hp => h p (by simp [hp])
    simp only [Vic.tot, List.length_cons]
    omega
theorem Costs.take {l : List Wg} (h : Costs l) (j : Nat) : Costs (l.take j) := fun p hp => h p (List.mem_of_mem_take hp)
theorem Costs.drop {l : List Wg} (h : Costs l) (j : Nat) : Costs (l.drop j) := fun p hp => h p (List.mem_of_mem_drop hp)
theorem Costs.notk {l : List Wg} (h : Costs l) (k : Int) : Costs (notk k l) := fun p hp => h p (by unfold Vic.notk at hp; exact (List.mem_filter.1 hp).1)
theorem Costs.of_fin {l : List Wg} (h : Fin l l.length) : Costs l := fun p hp => by
  obtain ⟨i, hi⟩ := List.getElem?_of_mem hp
  have := (h i p (List.getElem?_eq_some_iff.1 hi).1 hi).1
  exact ⟨this.2.1, this.2.2⟩
theorem Costs.part {l : List Wg} (h : Costs l) (j : Nat) : 0 ≤ Vic.tot (l.take j) ∧ Vic.tot (l.take j) ≤ Vic.tot l := by
  have h1 := (h.take j).tot
  have h2 := (h.drop j).tot
  have h3 := tot_append (l.take j) (l.drop j)
  rw [List.take_append_drop] at h3
  omega
theorem tot_notk {l : List Wg} (h : Costs l) (k : Int) : tot (notk k l) ≤ tot l := by
  induction l with
  | nil => simp [notk, tot]
  | cons x l ih =>
    have h1 := h x (by simp)
    have h2 := ih fun p hp => h p (by simp [hp])
    have h3 : tot (notk k (x :: l)) = (if x.1 == k then 0 else x.2) + tot (notk k l) := by
      unfold notk
      rw [List.filter_cons]
      cases hx : (x.1 == k) <;> simp [hx, tot]
    rw [h3]
    simp only [tot]
    split <;> omega
/-- without the first j of o, the rest of N entries that cost C is within n and b -/
def stays (n b N C : Int) (o : List Wg) (j : Nat) : Prop := N - (j : Int) ≤ n ∧ C - tot (o.take j) ≤ b
/-- the number of victims -/
def Vc (n b N C : Int) (o : List Wg) (m : Nat) : Prop := m ≤ o.length ∧ (∀ i, i < m → ¬ stays n b N C o i) ∧ (m = o.length ∨ stays n b N C o m)
theorem Vc.uni {n b N C : Int} {o : List Wg} {m m' : Nat} (h : Vc n b N C o m) (h' : Vc n b N C o m') : m = m' := by
  obtain ⟨h1, h2, h3⟩ := h
  obtain ⟨g1, g2, g3⟩ := h'
  rcases Nat.lt_trichotomy m m' with h | h | h
  · rcases h3 with h3 | h3
    · omega
    · exact absurd h3 (g2 m h)
  · exact h
  · rcases g3 with g3 | g3
    · omega
    · exact absurd g3 (h2 m' h)
def slots (l : List Wg) : List Int := l.map (·.1)
def Ks (w : World) (B : Nat) (v : Value) (l : List Int) : Prop := w.ownsRow B 25 1 v l.length (l.map (Value.int .u32))
theorem info_u32 : (Try.prog.info? 25).map (fun i => (i.size, i.bytes, i.zero)) = some (1, 4, some (.int .u32 0)) := by kernel_rfl
theorem u_parts : ∃ i, Try.prog.info? 25 = some i ∧ i.zero = some (.int .u32 0) ∧ i.size = 1 ∧ i.bytes = 4 := by
  have h := info_u32
  cases hi : Try.prog.info? 25 with
  | none => rw [hi] at h; simp at h
  | some i => rw [hi] at h; simp at h; exact ⟨i, rfl, h.2.2, h.1, h.2.1⟩
theorem ks_below {w w' : World} {B : Nat} {v : Value} {l : List Int} (h : Ks w B v l) (hb : Below w.heap.size w w') : Ks w' B v l := by
  obtain ⟨h0, ⟨hv, hn⟩ | ⟨g, cap, cur, hv, hb', hg, hr⟩⟩ := h
  · exact ⟨h0, .inl ⟨hv, hn⟩⟩
  · exact ⟨h0, .inr ⟨g, cap, cur, hv, hb', (hb.block g (Array.getElem?_eq_some_iff.1 hg).1).trans hg, hr⟩⟩
theorem Ks.lift {w : World} {B C : Nat} {v : Value} {l : List Int} (h : Ks w B v l) (hb : C ≤ B) : Ks w C v l := by
  obtain ⟨h0, ⟨hv, hn⟩ | ⟨g, cap, cur, hv, hb', hg, hr⟩⟩ := h
  · exact ⟨h0, .inl ⟨hv, hn⟩⟩
  · exact ⟨h0, .inr ⟨g, cap, cur, hv, Nat.le_trans hb hb', hg, hr⟩⟩
/-- the box of a question -/
def Bq (w : World) (g : Nat) (p1 : Option Addr) (m1 c1 : Nat) (p2 : Option Addr) (m2 c2 : Nat) (k n b : Int) : Prop := w.heap[g]? = some (.cells #[.slice p1 m1 c1, .slice p2 m2 c2, .int .u32 k, .int .i64 n, .int .i64 b] 53 (0, 0))
theorem Bq.new (W : World) (p1 : Option Addr) (m1 c1 : Nat) (p2 : Option Addr) (m2 c2 : Nat) (k n b : Int) : Bq (W.alloc (.cells #[.slice p1 m1 c1, .slice p2 m2 c2, .int .u32 k, .int .i64 n, .int .i64 b] 53)) W.heap.size p1 m1 c1 p2 m2 c2 k n b := (MapKept.heap_alloc W _).1
theorem Bq.below {w w' : World} {g : Nat} {p1 p2 : Option Addr} {m1 c1 m2 c2 : Nat} {k n b : Int} (h : Bq w g p1 m1 c1 p2 m2 c2 k n b) (hb : Below w.heap.size w w') : Bq w' g p1 m1 c1 p2 m2 c2 k n b := (hb.block g (Array.getElem?_eq_some_iff.1 h).1).trans h
theorem Bq.five {w : World} {g : Nat} {p1 p2 : Option Addr} {m1 c1 m2 c2 : Nat} {k n b : Int} (h : Bq w g p1 m1 c1 p2 m2 c2 k n b) : w.cell? ⟨g, 0, none⟩ = some (.slice p1 m1 c1) ∧ w.cell? ⟨g, 1, none⟩ = some (.slice p2 m2 c2) ∧ w.cell? ⟨g, 2, none⟩ = some (.int .u32 k) ∧ w.cell? ⟨g, 3, none⟩ = some (.int .i64 n) ∧ w.cell? ⟨g, 4, none⟩ = some (.int .i64 b) := by
  unfold Bq at h
  refine ⟨?_, ?_, ?_, ?_, ?_⟩ <;> simp [World.cell?, h]
/-- the victims of l are returned -/
def Gives (e : Ending) (w : World) (B : Nat) (n b k : Int) (l : List Wg) : Prop := ∃ m v, e = .returned v ∧ Vc n b (l.length : Int) (tot l) (notk k l) m ∧ Ks w B v (slots ((notk k l).take m))
set_option maxRecDepth 100000 in
set_option maxHeartbeats 2000000 in
theorem victims_any {W : World} {m1 c1 m2 c2 : Nat} {p1 p2 : Option Addr} {l1 l2 : List Wg} {k n b : Int} (h1 : l1.length = m1) (h2 : l2.length = m2) (r1 : Rd W p1 l1) (r2 : Rd W p2 l2) (hb1 : m1 ≤ 100) (hb2 : m2 ≤ 100) (hc : Costs (l1 ++ l2)) :
    Calls Try.prog 28 #[qv p1 m1 c1 p2 m2 c2 k n b] W fun e w' => Gives e w' W.heap.size n b k (l1 ++ l2) ∧ Below W.heap.size W w' := by
  have bA : ∀ t, Below W.heap.size W (W.alloc (.cells #[.slice p1 m1 c1, .slice p2 m2 c2, .int .u32 k, .int .i64 n, .int .i64 b] t)) := fun _ => by go_grown
  go_enter Try.func28, Try.ntmps28
  go_wp2_with fail
  refine (all_any h1 h2 (r1.below (bA _)) (r2.below (bA _)) (by omega) (by omega)).mono ?_
  rintro e w1 ⟨x1, rfl, o1, b1⟩
  obtain ⟨q, nn, kk, rfl, hnn, -, -⟩ := o1.form
  have hL : (l1 ++ l2).length = m1 + m2 := by rw [List.length_append, h1, h2]
  rw [hL] at hnn
  have hs1 : W.heap.size < w1.heap.size := by have := b1.size; simp only [World.size_alloc] at this; omega
  have BX := Lib.hid ((Bq.new W p1 m1 c1 p2 m2 c2 k n b).below b1)
  have HQ := Lib.hid (fun hn => ow_head o1 hn)
  have R1 := Lib.hid (fun (v : World) (hb : Below w1.heap.size w1 v) => (rd_ow o1).below hb)
  have B1 := Lib.hid (tr (bA _) b1)
  have HO := Lib.hid (fun (v : World) (hb : Below W.heap.size W v) => order_any (W := v) (c1 := c1) (c2 := c2) (k := k) (n := n) (b := b) h1 h2 (r1.below hb) (r2.below hb) (by omega) (by omega))
  obtain ⟨ll, hll⟩ : ∃ x, l1 ++ l2 = x := ⟨_, rfl⟩
  rw [hll] at hL R1 hc HO
  have HLL := Lib.hid hll
  have HC := Lib.hid hc
  have HL := Lib.hid (hL.trans hnn.symm)
  have hnb : nn ≤ 200 := by omega
  clear hll hc hL o1 b1 bA r1 r2 h1 h2 hnn hb1 hb2
  go_wp2_with fail
  go_loopw [5, 17] (fun v5 v wr => ∃ (j : Nat), j ≤ nn ∧ v = .int .i64 j ∧ v5 = .int .i64 (tot (ll.take j)) ∧ Below w1.heap.size w1 wr) (fun _ v _ => nn - (intOf v).toNat)
  case atStart => exact ⟨0, by omega, rfl, rfl, Below.refl _ _⟩
  case round =>
    obtain ⟨j, hj, rfl, rfl, b1⟩ := hrel
    have BB := Lib.hid b1
    have hcj := HC.out.part j
    have htt := HC.out.tot
    rw [HL.out] at htt
    by_cases hjn : j = nn
    · subst hjn
      rw [List.take_of_length_le (Nat.le_of_eq HL.out)]
      clear b1 hcj
      obtain ⟨C, hCe⟩ : ∃ C, tot ll = C := ⟨_, rfl⟩
      rw [hCe] at htt ⊢
      have bx := BX.out.below BB.out
      obtain ⟨x0, x1, x2, x3, x4⟩ := bx.five
      go_wp2_with fail
      refine (HO.out _ (B1.out.trans (BB.out.mono B1.out.size))).mono ?_
      rintro e w3 ⟨v3, rfl, o3, b3⟩
      have B3 := Lib.hid (B1.out.trans ((BB.out.trans (b3.mono BB.out.size)).mono B1.out.size))
      have BX3 := Lib.hid (bx.below b3)
      have hs3 := b3.size
      have hW3 : W.heap.size < w3.heap.size := by have := BB.out.size; omega
      have hC2 := HC.out.notk k
      have hT2 := tot_notk HC.out k
      have hN2 : (notk k ll).length ≤ j := by unfold notk; have := List.length_filter_le (fun x : Wg => !(x.1 == k)) ll; have := HL.out; omega
      obtain ⟨q3, n3, k3, rfl, hn3, -, -⟩ := o3.form
      have HQ3 := Lib.hid (fun hn => ow_head o3 hn)
      have R3 := Lib.hid (fun (v : World) (hb : Below w3.heap.size w3 v) => (rd_ow o3).below hb)
      clear x0 x1 x2 x3 x4 b3 o3 bx BX BB R1 HO HQ hs1
      obtain ⟨oo, hoo⟩ : ∃ x, notk k ll = x := ⟨_, rfl⟩
      rw [hoo] at hn3 R3 hC2 hT2 hN2
      rw [hCe] at hT2
      have HCE := Lib.hid hCe
      have HOO := Lib.hid hoo
      have HC2 := Lib.hid hC2
      have HN3 := Lib.hid hn3
      clear hoo hC2 hCe hn3
      have hno : oo.length ≤ 200 := by omega
      have hC1 : C ≤ 200 * 1099511627776 := by omega
      have hC0 := htt.1
      obtain ⟨no, hno'⟩ : ∃ x, oo.length = x := ⟨_, rfl⟩
      rw [hno'] at HN3 hno hN2
      obtain rfl := HN3.out
      have HNO := Lib.hid hno'
      clear hno'
      obtain ⟨i0, hi0, hz0, hz1, hz2⟩ := u_parts
      have END := Lib.hid (show ∀ (i : Nat) (w : World) (v : Value), Ks w w3.heap.size v (slots (oo.take i)) → Vc n b j C oo i → Gives (.returned v) w W.heap.size n b k (l1 ++ l2) from fun i w v h1 h2 => by
        unfold Gives
        rw [HLL.out, HOO.out, HCE.out, HL.out]
        exact ⟨i, v, rfl, h2, h1.lift (Nat.le_of_lt hW3)⟩)
      go_wp2_with fail
      go_loopw [4, 5, 8, 29] (fun v4 v5 v8 v wr => ∃ (i : Nat), i ≤ n3 ∧ v = .int .i64 i ∧ v4 = .int .i64 ((j : Int) - (i : Int)) ∧ v5 = .int .i64 (C - tot (oo.take i)) ∧ (∀ x, x < i → ¬ stays n b j C oo x) ∧ Ks wr w3.heap.size v8 (slots (oo.take i)) ∧ Below w3.heap.size w3 wr) (fun _ _ _ v _ => n3 - (intOf v).toNat)
      case atStart => exact ⟨0, by omega, rfl, by go_num, by simp [tot], fun x hx => by omega, World.ownsRow_nil _ _ _ _, Below.refl _ _⟩
      case round =>
        obtain ⟨i, hi, rfl, rfl, rfl, hns, ho, bw⟩ := hrel
        have BW := Lib.hid bw
        have NS := Lib.hid hns
        have KS := Lib.hid ho
        have bx := BX3.out.below bw
        obtain ⟨x0, x1, x2, x3, x4⟩ := bx.five
        have hcp := HC2.out.part i
        by_cases hin : i = n3
        · subst hin
          clear bw hns ho bx
          go_wp2_with fail
          go_ret
          exact ⟨END.out i _ _ KS.out ⟨Nat.le_of_eq HNO.out.symm, NS.out, .inl HNO.out.symm⟩, B3.out.trans (BW.out.mono (Nat.le_of_lt hW3))⟩
        · have hlt : i < n3 := by omega
          have hlt' : (i : Int) < (n3 : Int) := by omega
          have i0' : (0 : Int) ≤ (i : Int) := by omega
          have ej := IntWalk.i64_in ((j : Int) - (i : Int) - 1) (by omega)
          obtain ⟨p, hp⟩ : ∃ p, oo[i]? = some p := ⟨oo[i]'(by rw [HNO.out]; omega), List.getElem?_eq_getElem _⟩
          obtain ⟨g, rfl, _, hg⟩ := HQ3.out (by omega)
          obtain ⟨y, hy, _, e0, e1⟩ := R3.out _ bw i p hp
          cases hy
          rw [add2] at e0 e1
          have hgw : g < wr.heap.size := Nat.lt_of_lt_of_le hg bw.size
          have HST := Lib.hid (show stays n b j C oo i ↔ ((j : Int) - (i : Int) ≤ n ∧ C - tot (oo.take i) ≤ b) from Iff.rfl)
          have ht := tot_succ hp
          have hcs := HC2.out.part (i + 1)
          have wt := IntWalk.i64_in (C - tot (oo.take i) - p.2) (by omega)
          have HT := Lib.hid ht
          have HSL := Lib.hid (show slots (oo.take (i + 1)) = slots (oo.take i) ++ [p.1] from by unfold slots; rw [List.take_add_one, hp, List.map_append]; rfl)
          have hsl : (slots (oo.take i)).length ≤ 200 := by unfold slots; rw [List.length_map, List.length_take]; omega
          have HSLN := Lib.hid hsl
          have hWr : W.heap.size < wr.heap.size := Nat.lt_of_lt_of_le hW3 bw.size
          have KSB := Lib.hid (show Ks (wr.alloc (.cells #[.int .u32 p.1, .int .i64 p.2] 34)) w3.heap.size u8 (slots (oo.take i)) from ks_below ho (by go_grown))
          have BWB := Lib.hid (show Below w3.heap.size w3 (wr.alloc (.cells #[.int .u32 p.1, .int .i64 p.2] 34)) from bw.trans (show Below w3.heap.size wr _ from by have := bw.size; go_grown))
          clear bw hns ho bx hp ht hsl
          by_cases hst : stays n b j C oo i
          · obtain ⟨h1, h2⟩ := HST.out.1 hst
            have ST := Lib.hid hst
            clear hst hcs wt HT HSL
            generalize tot (oo.take i) = S at *
            go_wp2_with fail
            go_ret
            exact ⟨END.out i _ _ KSB.out ⟨by rw [HNO.out]; omega, NS.out, .inr ST.out⟩, B3.out.trans (BWB.out.mono (Nat.le_of_lt hW3))⟩
          · have hor : ¬ ((j : Int) - (i : Int) ≤ n) ∨ (((j : Int) - (i : Int) ≤ n) ∧ ¬ (C - tot (oo.take i) ≤ b)) := by
              rw [HST.out] at hst
              by_cases h1 : (j : Int) - (i : Int) ≤ n
              · exact .inr ⟨h1, fun h2 => hst ⟨h1, h2⟩⟩
              · exact .inl h1
            have ST := Lib.hid hst
            clear hst
            rcases hor with h1 | ⟨h1, h2⟩
            all_goals (
              generalize tot (oo.take i) = S at *
              go_wp2_with (at_builtin; refine wpList_app1 rfl (.tmp 49) (.tmp 52) 39 rfl w3.heap.size 25 i0 (.int .u32 0) 4 Try.underlying39 hi0 hz0 hz1 hz2 rfl _ _ _ (.int .u32 p.1) rfl KSB.out (by rw [World.size_alloc]; rfl) rfl (by have := HSLN.out; omega) (by omega) BWB.out.size ?_; intro v' w' o' b' s')
              refine ⟨⟨i + 1, by omega, by go_num, congrArg (Value.int .i64) (by omega), by rw [HT.out]; exact congrArg (Value.int .i64) (by omega), fun x hx => ?_, ?_, BWB.out.trans b'⟩, by simp [intOf]; omega⟩
              · rcases Nat.lt_or_ge x i with h | h
                · exact NS.out x h
                · obtain rfl : x = i := by omega
                  exact ST.out
              · unfold Ks
                rw [HSL.out]
                simpa [List.map_append] using o')
    · have hlt : j < nn := by omega
      have hlt' : (j : Int) < (nn : Int) := by omega
      have j0 : (0 : Int) ≤ (j : Int) := by omega
      obtain ⟨p, hp⟩ : ∃ p, ll[j]? = some p := ⟨ll[j]'(by rw [HL.out]; omega), List.getElem?_eq_getElem _⟩
      obtain ⟨g, rfl, _, hg⟩ := HQ.out (by omega)
      obtain ⟨y, hy, _, e0, e1⟩ := R1.out _ b1 j p hp
      cases hy
      rw [add2] at e0 e1
      have hgw : g < wr.heap.size := Nat.lt_of_lt_of_le hg b1.size
      have ht := tot_succ hp
      have hcs := HC.out.part (j + 1)
      have HT := Lib.hid ht
      have wt := IntWalk.i64_in (tot (ll.take j) + p.2) (by omega)
      clear b1 hcj hcs htt hp ht
      generalize tot (ll.take j) = S at *
      go_wp2_with fail
      go_roundw
      case rel => exact ⟨j + 1, by omega, by go_num, by rw [HT.out], BB.out.trans (show Below w1.heap.size wr _ from by have := BB.out.size; go_grown)⟩
      case measure => simp [intOf]; omega
end Go.Proofs.Ytlokilkhlhhjgaa.Vic
