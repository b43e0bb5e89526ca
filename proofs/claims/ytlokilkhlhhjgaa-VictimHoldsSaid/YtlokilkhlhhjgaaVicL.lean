/-
  Victims (layer 18): which entries are allowed: valid.
-/
import Derived.Test.YtlokilkhlhhjgaaVicK
import Derived.Maps.OwnSet
set_option linter.unusedVariables false
set_option linter.unusedSimpArgs false
namespace Go.Proofs.Ytlokilkhlhhjgaa.Vic
open Go Go.RowKit Kit Go.Maps
def okW (p : Wg) : Prop := p.1 < 4194304 ∧ 0 ≤ p.2 ∧ p.2 ≤ 1099511627776
/-- the first n entries are allowed -/
def Fin (l : List Wg) (n : Nat) : Prop := ∀ i p, i < n → l[i]? = some p → okW p ∧ ∀ j q, j < i → l[j]? = some q → q.1 ≠ p.1
theorem Fin.zero (l : List Wg) : Fin l 0 := fun i p h => by omega
theorem Fin.succ {l : List Wg} {n : Nat} {p : Wg} (h : Fin l n) (hp : l[n]? = some p) (h1 : okW p) (h2 : ∀ j q, j < n → l[j]? = some q → q.1 ≠ p.1) : Fin l (n + 1) := fun i x hi hx => by
  rcases Nat.lt_or_ge i n with h3 | h3
  · exact h i x h3 hx
  · obtain rfl : i = n := by omega
    rw [hp] at hx; cases hx
    exact ⟨h1, h2⟩
theorem Fin.not_w {l : List Wg} {n : Nat} {p : Wg} (hp : l[n]? = some p) (h : ¬ okW p) : ¬ Fin l l.length := fun H => h (H n p (List.getElem?_eq_some_iff.1 hp).1 hp).1
theorem Fin.not_d {l : List Wg} {n j : Nat} {p q : Wg} (hp : l[n]? = some p) (hj : j < n) (hq : l[j]? = some q) (he : q.1 = p.1) : ¬ Fin l l.length := fun H => (H n p (List.getElem?_eq_some_iff.1 hp).1 hp).2 j q hj hq he
theorem und_u32 : Try.prog.underlying 25 = some (.int .u32) := by kernel_rfl
theorem und_set : Try.prog.underlying 60 = some (.map 25 61) := by kernel_rfl
/-- the slots that were seen -/
def Mk (D : DataW Unit) (l : List Wg) (n : Nat) : Prop := ∀ k, has D (.int .u32 k) = (l.take n).any (fun x => x.1 == k)
theorem Mk.zero (l : List Wg) : Mk (.map []) l 0 := fun k => by simp [has]
theorem Mk.put {D : DataW Unit} {l : List Wg} {n : Nat} {p : Wg} (h : Mk D l n) (ht : Tidy D) (hp : l[n]? = some p) : Mk (D.put (.int .u32 p.1) (.agg [])) l (n + 1) := fun k => by
  have hkl : WideAt.IsKeyLit (Lit.int .u32 p.1) := by trivial
  rw [List.take_add_one, hp]
  by_cases hk : k = p.1
  · subst hk
    rw [has_put_same ht.isMap hkl]; simp
  · rw [has_put_other (fun h1 => hk (by injection h1)), h k]
    simp [Ne.symm hk]
theorem any_false {l : List Wg} {n : Nat} {k : Int} (h : (l.take n).any (fun x => x.1 == k) = false) : ∀ j q, j < n → l[j]? = some q → q.1 ≠ k := fun j q hj hq he => by
  have : q ∈ l.take n := by
    refine List.mem_of_getElem? (i := j) ?_
    rw [List.getElem?_take_of_lt hj]; exact hq
  have h2 := List.any_eq_false.1 h q this
  simp [he] at h2
theorem any_true {l : List Wg} {n : Nat} {k : Int} (h : (l.take n).any (fun x => x.1 == k) = true) : ∃ j q, j < n ∧ l[j]? = some q ∧ q.1 = k := by
  obtain ⟨q, hq, he⟩ := List.any_eq_true.1 h
  obtain ⟨j, hj⟩ := List.getElem?_of_mem hq
  have hjn : j < n := by
    have := (List.getElem?_eq_some_iff.1 hj).1
    rw [List.length_take] at this; omega
  rw [List.getElem?_take_of_lt hjn] at hj
  exact ⟨j, q, hjn, hj, by simpa using he⟩
abbrev OwnS (W : World) (m N : Nat) (D : DataW Unit) : Prop := W.ownsMap Try.prog 25 unitElem m N D
/-- numbers of their types -/
def Wf (l : List Wg) : Prop := ∀ (i : Nat) (p : Wg), l[i]? = some p → (Lit.int .u32 p.1).wf = true ∧ (Lit.int .i64 p.2).wf = true
theorem ow_head {w : World} {B : Nat} {q : Option Addr} {n k : Nat} {l : List Wg} (h : Ow w B (.slice q n k) l) (hn : n ≠ 0) : ∃ g, q = some ⟨g, 0, none⟩ ∧ B ≤ g ∧ g < w.heap.size := by
  obtain ⟨hxl, ⟨hv, hn'⟩ | ⟨g, cap, cur, hv, hb, hg, hr⟩⟩ := h
  · cases hv; exact absurd rfl hn
  · cases hv; exact ⟨g, rfl, hb, (Array.getElem?_eq_some_iff.1 hg).1⟩
theorem add2 (g j : Nat) : (⟨g, 0, none⟩ : Addr).add j = ⟨g, j, none⟩ := by unfold Addr.add; split <;> simp_all
theorem makeMap_size {P : Program} (t a b : TypeId) (ht : P.underlying t = some (.map a b)) (w : World) (n : Nat) : (Instr.makeMap t (some (.int .i64 (n : Int)))).run P w = .ok (.map (some w.heap.size)) (w.alloc (.map #[] 0)) := by
  simp only [Instr.makeMap, Sem.run_bind, run_underlying ht, Result.andThen_ok]
  rfl
/-- v says whether p holds -/
def Is (v : Bool) (p : Prop) : Prop := v = true ↔ p
/-- what is allowed -/
def VOk (n b : Int) (l : List Wg) : Prop := 0 ≤ n ∧ 0 ≤ b ∧ Fin l l.length
/-- a function that says whether p holds -/
def Says (e : Ending) (p : Prop) : Prop := ∃ v : Bool, e = .returned (.bool v) ∧ Is v p
theorem Is.no {p : Prop} (h : ¬ p) : Is false p := ⟨fun h1 => (by cases h1), fun h1 => absurd h1 h⟩
theorem Is.yes {p : Prop} (h : p) : Is true p := ⟨fun _ => h, fun _ => rfl⟩
theorem Says.no {p : Prop} {e : Ending} (he : e = .returned (.bool false)) (h : ¬ p) : Says e p := ⟨false, he, Is.no h⟩
theorem Says.yes {p : Prop} {e : Ending} (he : e = .returned (.bool true)) (h : p) : Says e p := ⟨true, he, Is.yes h⟩
set_option maxRecDepth 100000 in
set_option maxHeartbeats 2000000 in
theorem valid_any {W : World} {m1 c1 m2 c2 : Nat} {p1 p2 : Option Addr} {l1 l2 : List Wg} {k n b : Int} (h1 : l1.length = m1) (h2 : l2.length = m2) (r1 : Rd W p1 l1) (r2 : Rd W p2 l2) (hb1 : m1 ≤ 100) (hb2 : m2 ≤ 100) (hw : Wf (l1 ++ l2)) :
    Calls Try.prog 24 #[qv p1 m1 c1 p2 m2 c2 k n b] W fun e w' => Says e (VOk n b (l1 ++ l2)) ∧ Below W.heap.size W w' := by
  by_cases hn : n < 0
  · go_enter Try.func24, Try.ntmps24
    go_wp2_with fail
    go_ret
    exact ⟨Says.no rfl fun h => by have := h.1; have := h.2.1; omega, by go_grown⟩
  by_cases hb : b < 0
  · go_enter Try.func24, Try.ntmps24
    go_wp2_with fail
    go_ret
    exact ⟨Says.no rfl fun h => by have := h.1; have := h.2.1; omega, by go_grown⟩
  have a1 : ¬ (2097152 : Int) < (m1 : Int) := by omega
  have a2 : ¬ (2097152 : Int) - (m1 : Int) < (m2 : Int) := by omega
  have a3 := IntWalk.i64_in ((2097152 : Int) - (m1 : Int)) (by omega)
  have bA : ∀ t, Below W.heap.size W (W.alloc (.cells #[.slice p1 m1 c1, .slice p2 m2 c2, .int .u32 k, .int .i64 n, .int .i64 b] t)) := fun _ => by go_grown
  go_enter Try.func24, Try.ntmps24
  go_wp2_with fail
  refine (all_any h1 h2 (r1.below (bA _)) (r2.below (bA _)) (by omega) (by omega)).mono ?_
  rintro e w1 ⟨x1, rfl, o1, b1⟩
  obtain ⟨q, nn, kk, rfl, hnn, -, -⟩ := o1.form
  have hL : (l1 ++ l2).length = m1 + m2 := by rw [List.length_append, h1, h2]
  rw [hL] at hnn
  have hs1 : W.heap.size < w1.heap.size := by have := b1.size; simp only [World.size_alloc] at this; omega
  have HQ := Lib.hid (fun hn => ow_head o1 hn)
  have R1 := Lib.hid (fun (v : World) (hb : Below w1.heap.size w1 v) => (rd_ow o1).below hb)
  have B1 := Lib.hid (tr (bA _) b1)
  obtain ⟨ll, hll⟩ : ∃ x, l1 ++ l2 = x := ⟨_, rfl⟩
  rw [hll] at hL R1 hw
  have HLL := Lib.hid hll
  have HW := Lib.hid hw
  have HL := Lib.hid (hL.trans hnn.symm)
  have hnb : nn ≤ 200 := by omega
  clear hll hw hL o1 b1 bA r1 r2 h1 h2 hnn
  have K := Maps.int_keyed (P := Try.prog) und_u32
  have hzu : ∀ w, (zeroValue 61).run Try.prog w = .ok (.agg #[]) w := fun w => by kernel_rfl
  have M0 : OwnS (w1.alloc (.map #[] 0)) w1.heap.size 0 (.map []) := World.ownsMap_made _ _ _ _
  have hmm : (Instr.makeMap 60 (some (.int .i64 (nn : Int)))).run Try.prog w1 = .ok (.map (some w1.heap.size)) (w1.alloc (.map #[] 0)) := makeMap_size _ _ _ und_set w1 nn
  have HM0 := Lib.hid M0
  have BM0 := Lib.hid (B1.out.trans (show Below W.heap.size w1 (w1.alloc (.map #[] 0)) from by go_grown))
  clear M0
  go_wp2_with fail
  go_loopw [40] (fun v wr => ∃ (j : Nat) (D : DataW Unit), j ≤ nn ∧ v = .int .i64 j ∧ Fin ll j ∧ Mk D ll j ∧ OwnS wr w1.heap.size j D ∧ Below W.heap.size W wr ∧ Below w1.heap.size w1 wr) (fun v _ => nn - (intOf v).toNat)
  case atStart => exact ⟨0, .map [], by omega, rfl, Fin.zero _, Mk.zero _, HM0.out, BM0.out, by go_grown⟩
  case round =>
    obtain ⟨j, D, hj, rfl, hF, hM, hO, bW, b1⟩ := hrel
    have BW := Lib.hid bW
    have BB := Lib.hid b1
    have HF := Lib.hid hF
    have HM := Lib.hid hM
    have HO := Lib.hid hO
    by_cases hjn : j = nn
    · subst hjn
      clear bW b1 hF hM hO HM0 BM0
      go_wp2_with fail
      go_ret
      exact ⟨Says.yes rfl ⟨hn, hb, by rw [HLL.out, HL.out]; exact HF.out⟩, BW.out⟩
    · have hlt : j < nn := by omega
      have hlt' : (j : Int) < (nn : Int) := by omega
      have j0 : (0 : Int) ≤ (j : Int) := by omega
      obtain ⟨p, hp⟩ : ∃ p, ll[j]? = some p := ⟨ll[j]'(by rw [HL.out]; omega), List.getElem?_eq_getElem _⟩
      obtain ⟨g, rfl, _, hg⟩ := HQ.out (by omega)
      obtain ⟨y, hy, _, e0, e1⟩ := R1.out _ b1 j p hp
      cases hy
      rw [add2] at e0 e1
      obtain ⟨wf1, wf2⟩ := HW.out j p hp
      have hgw : g < wr.heap.size := Nat.lt_of_lt_of_le hg b1.size
      have HP := Lib.hid hp
      clear bW b1 hF hM hO HM0 BM0 hp
      have KEY := Lib.hid (Maps.keyOf_int_mk (P := Try.prog) und_u32 wf1)
      have O2 := Lib.hid (World.ownsMap.alloc (World.ownsMap.alloc HO.out (.cells #[.int .u32 p.1, .int .i64 p.2] 34)) (.cells #[] 61))
      have hjm : j < maxLen := by unfold maxLen; omega
      have hmb : w1.heap.size < wr.heap.size := HO.out.lt
      have BF := Lib.hid (show Below W.heap.size W ((wr.alloc (.cells #[.int .u32 p.1, .int .i64 p.2] 34)).alloc (.cells #[] 61)) from BW.out.trans (show Below W.heap.size wr _ from by
        have := BW.out.size
        go_grown))
      clear hb1 hb2 hs1
      cases hx : has D (.int .u32 p.1) with
      | true =>
        have HX := Lib.hid hx
        go_wp2_with (at_lookup; refine wpList_lookup_own_unit _ rfl _ _ 60 rfl 25 61 K und_set (hzu _) w1.heap.size j D rfl (World.ownsMap.alloc HO.out _) _ _ rfl KEY.out ?_)
        all_goals go_ret
        all_goals refine ⟨Says.no rfl fun h => ?_, BF.out⟩
        all_goals (
          rw [HM.out] at HX
          obtain ⟨i, q, h1, h2, h3⟩ := any_true HX.out
          have h4 := h.2.2
          rw [HLL.out] at h4
          exact Fin.not_d HP.out h1 h2 h3 h4)
      | false =>
        have HX := Lib.hid (hx : has D (.int .u32 p.1) = false)
        by_cases hok : okW p
        · obtain ⟨k1, k2, k3⟩ := hok
          go_wp2_with (first
            | (at_lookup; refine wpList_lookup_own_unit _ rfl _ _ 60 rfl 25 61 K und_set (hzu _) w1.heap.size j D rfl (World.ownsMap.alloc HO.out _) _ _ rfl KEY.out ?_)
            | (at_mapUpdate; refine wpList_mapUpdate_in _ rfl _ _ _ 60 rfl 25 61 K und_set unitElem w1.heap.size j D rfl O2.out hjm _ _ (.int .u32 p.1) rfl rfl KEY.out _ [] unitElem_mk ?_; intro w4 o4 t4))
          have bF : Below w1.heap.size w1 ((wr.alloc (.cells #[.int .u32 p.1, .int .i64 p.2] 34)).alloc (.cells #[] 61)) := BB.out.trans (show Below w1.heap.size wr _ from by
            have := BB.out.size
            go_grown)
          have b4 : Below w1.heap.size w1 w4 := bF.grown t4.grown bF.size fun k hk => by cases hk; exact Nat.le_refl _
          refine ⟨⟨j + 1, _, by omega, by go_num, HF.out.succ HP.out ⟨k1, k2, k3⟩ (any_false (by rw [← HM.out]; exact HX.out)), HM.out.put (HO.out.tidy K) HP.out, o4, B1.out.trans (b4.mono B1.out.size), b4⟩, ?_⟩
          simp [intOf]; omega
        · go_wp2_with (first
            | (at_lookup; refine wpList_lookup_own_unit _ rfl _ _ 60 rfl 25 61 K und_set (hzu _) w1.heap.size j D rfl (World.ownsMap.alloc HO.out _) _ _ rfl KEY.out ?_)
            | (at_mapUpdate; exfalso; refine hok ⟨?_, ?_, ?_⟩ <;> omega))
          all_goals go_ret
          all_goals (
            refine ⟨Says.no rfl fun h => ?_, BF.out⟩
            have h4 := h.2.2
            rw [HLL.out] at h4
            exact Fin.not_w HP.out hok h4)
end Go.Proofs.Ytlokilkhlhhjgaa.Vic
