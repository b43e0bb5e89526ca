/-
  Victims (layer 18): VictimChecks.
-/
import Derived.Test.YtlokilkhlhhjgaaVicZ
set_option linter.unusedVariables false
set_option linter.unusedSimpArgs false
namespace Go.Proofs.Ytlokilkhlhhjgaa.Vic
open Go Go.RowKit Kit Go.Maps
theorem ks_ru2 {w : World} {B : Nat} {p : Option Addr} {n c : Nat} {l : List Int} (h : Ks w B (.slice p n c) l) (hl : l.length = n) : Ru w p l := by
  obtain ⟨p', c', hv, hr⟩ := ks_ru h
  cases hv
  exact hr
theorem ks_cap {w : World} {B : Nat} {p : Option Addr} {n c : Nat} {l : List Int} (h : Ks w B (.slice p n c) l) : n ≤ c := by
  rcases own_cases h with ⟨hv, rfl⟩ | ⟨g, cap, hv, h1, h2, h3, h4, h5⟩
  · cases hv; exact Nat.le_refl _
  · cases hv; exact h3
theorem ks_at {w : World} {B g n c : Nat} {l : List Int} (h : Ks w B (.slice (some ⟨g, 0, none⟩) n c) l) (hl : l.length = n) {k : Nat} (hk : k < n) : (∃ z, w.cell? ⟨g, k, none⟩ = some (.int .u32 z)) ∧ w.frozen? ⟨g, k, none⟩ = false ∧ ∀ z, Ks (w.setCell ⟨g, k, none⟩ (.int .u32 z)) B (.slice (some ⟨g, 0, none⟩) n c) (l.set k z) := by
  unfold Ks at h ⊢
  rw [hl] at h
  refine ⟨⟨l[k]'(by omega), ?_⟩, h.frozenAt k, fun z => ?_⟩
  · rw [h.cellAt k (by omega), List.getElem?_map, List.getElem?_eq_getElem (by omega)]
    rfl
  · have := (h.stored k (.int .u32 z)).1
    rw [List.length_set, hl]
    simpa [List.map_set] using this
/-- 'append([]uint32(nil), l...)' -/
theorem wpList_appU {w : World} {ops : Array Oper} {rest : List Oper} {o : Oper} {a : Act} {Q : Exit → Act → World → Prop} (hgd : o.guard = none) (s x : Operand)
    (ho : o.op = .call { callee := .builtin .append, args := #[s, x], argTypes := #[39, 39] })
    (base : Nat) (hs : a.eval s = .slice none 0 0) (p : Option Addr) (m c : Nat) (l : List Int) (hx : a.eval x = .slice p m c) (hl : l.length = m) (hr : Ru w p l) (hpos : 0 < m) (hn : m ≤ 1000000) (hbase : base ≤ w.heap.size)
    (h : ∀ g kk w', Ks w' base (.slice (some ⟨g, 0, none⟩) m kk) l → base ≤ g → Below w.heap.size w w' → wpList Try.prog ops Q rest (a.put o.dst (.slice (some ⟨g, 0, none⟩) m kk)) w') :
    wpList Try.prog ops Q (o :: rest) a w := by
  obtain ⟨i0, hi0, hz0, hz1, hz2⟩ := u_parts
  have hu : Try.prog.underlying 39 = some (.slice 25) := by kernel_rfl
  obtain ⟨y, rfl⟩ : ∃ y, p = some y := by
    obtain ⟨y, hy, -⟩ := hr 0 (l[0]'(by omega)) (List.getElem?_eq_getElem (by omega))
    exact ⟨y, hy⟩
  refine wpList_append_own _ hgd s x _ ho base _ i0 _ 1 4 hu hi0 hz0 hz1 hz2 rfl (by decide) (.slice none 0 0) 0 [] hs (World.ownsRow_nil _ _ _ _) y m c (l.map (Value.int .u32)) hx (by rw [List.length_map, hl, Nat.mul_one]) (fun j u hj => ?_) (fun u hu => ?_) (by unfold maxLen; omega) (by omega) hbase ?_
  · rw [List.getElem?_map] at hj
    cases hz : l[j]? with
    | none => rw [hz] at hj; cases hj
    | some z =>
      rw [hz] at hj
      cases hj
      obtain ⟨y', hy', _, e⟩ := hr j z hz
      cases hy'
      exact e
  · obtain ⟨z, -, rfl⟩ := List.mem_map.1 hu
    rfl
  · intro v' w' hown' hgrow _
    have hk : Ks w' base v' l := by
      unfold Ks
      rw [hl]
      simpa using hown'
    rcases own_cases hk with ⟨hv, hn0⟩ | ⟨g, cap, rfl, h1, h2, h3, h4, h5⟩
    · subst hn0; simp at hl; omega
    · rw [hl] at hk ⊢
      exact h g cap w' hk h1 ((Below.refl w.heap.size w).grown hgrow (Nat.le_refl _) fun k hk => by cases hk)
theorem firstI_take {l : List Int} {k : Nat} (h : k < l.length) : firstI l (l.take k) = (k : Int) := by
  refine firstI_ne (fun he => ?_) (by rw [List.take_take, Nat.min_self]) (by omega) (by rw [List.length_take]; omega) (.inr (.inl (by rw [List.length_take]; omega)))
  have := congrArg List.length he
  rw [List.length_take] at this
  omega
theorem Ltb.conj {W v3 w' : World} {p1 p2 : Option Addr} {m1 c1 m2 c2 : Nat} (h : Lt W v3 p1 m1 c1 p2 m2 c2) (hb : Below v3.heap.size v3 w') : w'.cell? ⟨W.heap.size, 0, none⟩ = some (.slice p1 m1 c1) ∧ w'.cell? ⟨W.heap.size, 1, none⟩ = some (.slice p2 m2 c2) ∧ Lt W w' p1 m1 c1 p2 m2 c2 ∧ Below v3.heap.size v3 w' := ⟨(h.below hb).1.two.1, (h.below hb).1.two.2, h.below hb, hb⟩
theorem Ltb.keep {W v3 v w' : World} {p1 p2 : Option Addr} {m1 c1 m2 c2 : Nat} (h0 : Lt W v3 p1 m1 c1 p2 m2 c2) (hb : Below v.heap.size v w') (h : v.cell? ⟨W.heap.size, 0, none⟩ = some (.slice p1 m1 c1) ∧ v.cell? ⟨W.heap.size, 1, none⟩ = some (.slice p2 m2 c2) ∧ Lt W v p1 m1 c1 p2 m2 c2 ∧ Below v3.heap.size v3 v) : w'.cell? ⟨W.heap.size, 0, none⟩ = some (.slice p1 m1 c1) ∧ w'.cell? ⟨W.heap.size, 1, none⟩ = some (.slice p2 m2 c2) ∧ Lt W w' p1 m1 c1 p2 m2 c2 ∧ Below v3.heap.size v3 w' := Ltb.conj h0 (tr h.2.2.2 hb)
theorem Ltc.conj {W v3 w6 w' : World} {p1 p2 : Option Addr} {m1 c1 m2 c2 : Nat} (h : w6.cell? ⟨W.heap.size, 0, none⟩ = some (.slice p1 m1 c1) ∧ w6.cell? ⟨W.heap.size, 1, none⟩ = some (.slice p2 m2 c2) ∧ Lt W w6 p1 m1 c1 p2 m2 c2 ∧ Below v3.heap.size v3 w6) (hb : Below w6.heap.size w6 w') : w'.cell? ⟨W.heap.size, 0, none⟩ = some (.slice p1 m1 c1) ∧ w'.cell? ⟨W.heap.size, 1, none⟩ = some (.slice p2 m2 c2) ∧ Lt W w' p1 m1 c1 p2 m2 c2 ∧ Below v3.heap.size v3 w' ∧ Below w6.heap.size w6 w' := ⟨(h.2.2.1.below hb).1.two.1, (h.2.2.1.below hb).1.two.2, h.2.2.1.below hb, tr h.2.2.2 hb, hb⟩
theorem Ltc.keep {W v3 w6 v w' : World} {p1 p2 : Option Addr} {m1 c1 m2 c2 : Nat} (hb : Below v.heap.size v w') (h : v.cell? ⟨W.heap.size, 0, none⟩ = some (.slice p1 m1 c1) ∧ v.cell? ⟨W.heap.size, 1, none⟩ = some (.slice p2 m2 c2) ∧ Lt W v p1 m1 c1 p2 m2 c2 ∧ Below v3.heap.size v3 v ∧ Below w6.heap.size w6 v) : w'.cell? ⟨W.heap.size, 0, none⟩ = some (.slice p1 m1 c1) ∧ w'.cell? ⟨W.heap.size, 1, none⟩ = some (.slice p2 m2 c2) ∧ Lt W w' p1 m1 c1 p2 m2 c2 ∧ Below v3.heap.size v3 w' ∧ Below w6.heap.size w6 w' := ⟨(h.2.2.1.below hb).1.two.1, (h.2.2.1.below hb).1.two.2, h.2.2.1.below hb, tr h.2.2.2.1 hb, tr h.2.2.2.2 hb⟩
theorem Ltc.b {W v3 w6 v : World} {p1 p2 : Option Addr} {m1 c1 m2 c2 : Nat} (h : v.cell? ⟨W.heap.size, 0, none⟩ = some (.slice p1 m1 c1) ∧ v.cell? ⟨W.heap.size, 1, none⟩ = some (.slice p2 m2 c2) ∧ Lt W v p1 m1 c1 p2 m2 c2 ∧ Below v3.heap.size v3 v ∧ Below w6.heap.size w6 v) : Below W.heap.size W v := h.2.2.1.2
set_option maxRecDepth 100000 in
set_option maxHeartbeats 1000000 in
theorem lchecks_any {W : World} {m1 c1 m2 c2 m3 c3 : Nat} {p1 p2 p3 : Option Addr} {l1 l2 : List Wg} {vs : List Int} {k n b : Int} {at_ other : Int} (h1 : l1.length = m1) (h2 : l2.length = m2) (r1 : Rd W p1 l1) (r2 : Rd W p2 l2) (w1 : Wf l1) (w2 : Wf l2) (h3 : vs.length = m3) (r3 : Ru W p3 vs) (a0 : 0 ≤ at_) (a1 : at_ ≤ 255) (hk : Kn W) :
    Calls Try.prog 5 #[ents p1 m1 c1 p2 m2 c2, .int .u32 k, .int .i64 n, .int .i64 b, .slice p3 m3 c3, .int .u8 at_, .int .u32 other] W fun e w' => e = .returned (.bool true) ∧ Below W.heap.size W w' := by
  have HK := Lib.hid hk
  clear hk
  by_cases hfew : m1 ≤ 60 ∧ m2 ≤ 60
  rotate_left
  · have HF := Lib.hid (fun (v : World) => few_no (c1 := c1) (c2 := c2) (p1 := p1) (p2 := p2) hfew v)
    clear hfew
    go_enter Try.func5, Try.ntmps5
    go_wp2_with fail
    have L0 := Lib.hid (Lt.new W p1 m1 c1 p2 m2 c2)
    refine (HF.out _).mono ?_
    rintro e v1 ⟨rfl, b1⟩
    have L1 := Lib.hid (L0.out.below b1)
    clear b1
    go_wp2_with fail
    refine (HK.out _ L1.out.2).mono ?_
    rintro e v4 ⟨rfl, b4⟩
    have B4 := Lib.hid (tr L1.out.2 b4)
    clear b4
    go_wp2_with fail
    go_ret
    exact ⟨rfl, B4.out⟩
  obtain ⟨f1, f2⟩ := hfew
  have HF := Lib.hid (fun (v : World) => few_yes (c1 := c1) (c2 := c2) (p1 := p1) (p2 := p2) f1 f2 v)
  by_cases hl3 : m3 ≤ 100
  rotate_left
  · have hl3' : ¬ (m3 : Int) ≤ 100 := by omega
    have hl3'' : (100 : Int) < (m3 : Int) := by omega
    go_enter Try.func5, Try.ntmps5
    clear h1 h2 h3
    go_wp2_with fail
    have L0 := Lib.hid (Lt.new W p1 m1 c1 p2 m2 c2)
    refine (HF.out _).mono ?_
    rintro e v1 ⟨rfl, b1⟩
    have L1 := Lib.hid (L0.out.below b1)
    clear b1
    go_wp2_with fail
    refine (HK.out _ L1.out.2).mono ?_
    rintro e v4 ⟨rfl, b4⟩
    have B4 := Lib.hid (tr L1.out.2 b4)
    clear b4
    go_wp2_with fail
    go_ret
    exact ⟨rfl, B4.out⟩
  have hl3' : ¬ (100 : Int) < (m3 : Int) := by omega
  have HFR := Lib.hid (fun (v : World) (hb : Below W.heap.size W v) => rfair_any (W := v) (c1 := c1) (c2 := c2) h1 h2 (r1.below hb) (r2.below hb) (by omega) (by omega))
  have HRC := Lib.hid (fun (v : World) (hb : Below W.heap.size W v) hc => rchoose_any (W := v) (c1 := c1) (c2 := c2) k n b h1 h2 (r1.below hb) (r2.below hb) (by omega) (by omega) hc)
  have HCN := Lib.hid (fun (v : World) (hb : Below W.heap.size W v) hno => checks_no (W := v) (c1 := c1) (c2 := c2) (c3 := c3) (k := k) (n := n) (b := b) h1 h2 (r1.below hb) (r2.below hb) (by omega) (by omega) (w1.append w2) hno h3 (r3.below hb) (by omega))
  have HCY := Lib.hid (fun (v : World) (hb : Below W.heap.size W v) hok m hm vs m3 c3 p3 r h3 r3 hb3 hr => checks_ok (W := v) (c1 := c1) (c2 := c2) (c3 := c3) (p3 := p3) (m3 := m3) (m := m) (vs := vs) (r := r) (k := k) (n := n) (b := b) h1 h2 (r1.below hb) (r2.below hb) (by omega) (by omega) (w1.append w2) hok hm h3 r3 hb3 hr)
  have R3 := Lib.hid (fun (v : World) (hb : Below W.heap.size W v) => r3.below hb)
  have H3 := Lib.hid h3
  have HLN := Lib.hid (show (l1 ++ l2).length ≤ 200 from by rw [List.length_append]; omega)
  clear r1 r2 w1 w2 h1 h2 h3 r3
  go_enter Try.func5, Try.ntmps5
  go_wp2_with fail
  have L0 := Lib.hid (Lt.new W p1 m1 c1 p2 m2 c2)
  refine (HF.out _).mono ?_
  rintro e v1 ⟨rfl, b1⟩
  have L1 := Lib.hid (L0.out.below b1)
  obtain ⟨x0, x1⟩ := L1.out.1.two
  clear b1
  go_wp2_with fail
  refine (HFR.out _ L1.out.2).mono ?_
  rintro e v2 ⟨⟨b0, rfl, hv⟩, b2⟩
  have L2 := Lib.hid (L1.out.below b2)
  have HV := Lib.hid hv
  clear x0 x1 b2 hv
  obtain ⟨x0, x1⟩ := L2.out.1.two
  have hcase : (b0 = false ∨ (b0 = true ∧ n < 0) ∨ (b0 = true ∧ ¬ n < 0 ∧ b < 0)) ∨ (b0 = true ∧ ¬ n < 0 ∧ ¬ b < 0) := by cases b0 <;> simp; omega
  rcases hcase with hbad | ⟨rfl, g1, g2⟩
  · have hno : ¬ VOk n b (l1 ++ l2) := fun h => by
      obtain ⟨q1, q2, q3⟩ := h
      have := HV.out.2 q3
      subst this
      rcases hbad with h | ⟨_, h⟩ | ⟨_, _, h⟩
      · cases h
      · omega
      · omega
    have HNO := Lib.hid hno
    clear hno
    rcases hbad with rfl | ⟨rfl, h⟩ | ⟨rfl, h', h⟩
    all_goals (
      go_wp2_with fail
      refine (HCN.out _ L2.out.2 HNO.out).mono ?_
      rintro e v3 ⟨rfl, b3⟩
      have L3 := Lib.hid (L2.out.below b3)
      clear b3 x0 x1
      go_wp2_with fail
      refine (HK.out _ L3.out.2).mono ?_
      rintro e v4 ⟨rfl, b4⟩
      have B4 := Lib.hid (tr L3.out.2 b4)
      clear b4
      go_wp2_with fail
      go_ret
      exact ⟨rfl, B4.out⟩)
  have OK := Lib.hid (show VOk n b (l1 ++ l2) from ⟨by omega, by omega, HV.out.1 rfl⟩)
  go_wp2_with fail
  refine (HRC.out _ L2.out.2 (Costs.of_fin OK.out.2.2)).mono ?_
  rintro e v3 ⟨⟨m, v, rfl, hm, ks⟩, b3⟩
  have L3 := Lib.hid (L2.out.below b3)
  obtain ⟨q, kk, rfl, rq⟩ := ks_ru ks
  have hwl : (slots ((notk k (l1 ++ l2)).take m)).length ≤ 200 := by
    unfold slots; rw [List.length_map, List.length_take]; have := notk_len k (l1 ++ l2); have := HLN.out; omega
  have hwk := ks_cap ks
  have HCC := Lib.hid (HCY.out (hok := OK.out) (hm := hm))
  have RQ := Lib.hid (fun (v : World) (hb : Below v3.heap.size v3 v) => rq.below hb)
  clear b3 x0 x1 hm ks rq HCY
  obtain ⟨x0, x1⟩ := L3.out.1.two
  obtain ⟨wl, hwle⟩ : ∃ x, slots ((notk k (l1 ++ l2)).take m) = x := ⟨_, rfl⟩
  rw [hwle] at hwl HCC RQ hwk
  rw [hwle]
  clear hwle
  obtain ⟨wn, hwn⟩ : ∃ x, wl.length = x := ⟨_, rfl⟩
  rw [hwn] at hwl hwk
  rw [hwn]
  have WN := Lib.hid hwn
  clear hwn
  have HFI := Lib.hid (fun (v : World) (h : v.cell? ⟨W.heap.size, 0, none⟩ = some (.slice p1 m1 c1) ∧ v.cell? ⟨W.heap.size, 1, none⟩ = some (.slice p2 m2 c2) ∧ Lt W v p1 m1 c1 p2 m2 c2 ∧ Below v3.heap.size v3 v) => first_any (w := v) (c1 := kk) (c2 := c3) WN.out H3.out (RQ.out v h.2.2.2) (R3.out v h.2.2.1.2) (by omega) (by omega))
  have HCX := Lib.hid (fun (v : World) (h : v.cell? ⟨W.heap.size, 0, none⟩ = some (.slice p1 m1 c1) ∧ v.cell? ⟨W.heap.size, 1, none⟩ = some (.slice p2 m2 c2) ∧ Lt W v p1 m1 c1 p2 m2 c2 ∧ Below v3.heap.size v3 v) (p : Option Addr) (nn cc : Nat) (r : Int) (ho : (p = p3 ∧ nn = m3 ∧ cc = c3 ∧ r = firstI wl vs) ∨ (p = q ∧ nn = wn ∧ cc = kk ∧ r = -1)) => (show Calls Try.prog 17 #[ents p1 m1 c1 p2 m2 c2, .int .u32 k, .int .i64 n, .int .i64 b, .slice p nn cc, .int .i64 r, .int .i64 0] v fun e w' => e = .returned (.bool true) ∧ Below v.heap.size v w' from by
    rcases ho with ⟨rfl, rfl, rfl, rfl⟩ | ⟨rfl, rfl, rfl, rfl⟩
    · exact HCC.out v h.2.2.1.2 vs _ _ _ _ H3.out (R3.out v h.2.2.1.2) (by omega) rfl
    · exact HCC.out v h.2.2.1.2 wl _ _ _ _ WN.out (RQ.out v h.2.2.2) (by omega) (firstI_eq _).symm))
  go_wp2_with fail
  clear x0 x1
  go_region_held3 (fun w' => w'.cell? ⟨W.heap.size, 0, none⟩ = some (.slice p1 m1 c1) ∧ w'.cell? ⟨W.heap.size, 1, none⟩ = some (.slice p2 m2 c2) ∧ Lt W w' p1 m1 c1 p2 m2 c2 ∧ Below v3.heap.size v3 w')
    (first
      | (exact Ltb.conj L3.out (Below.drew (Below.refl _ _)))
      | (exact Ltb.keep L3.out o1 (by assumption))
      | assumption
      | fail)
    (first
      | (go_at_call 18; refine (HFI.out _ (by assumption)).mono ?_; rintro e w' ⟨rfl, o1⟩)
      | (go_at_call 17; refine (HCX.out _ (by assumption) _ _ _ _ (by first | exact .inl ⟨rfl, rfl, rfl, rfl⟩ | exact .inr ⟨rfl, rfl, rfl, rfl⟩)).mono ?_; rintro e w' ⟨rfl, o1⟩)
      | fail)
  have SW := Lib.hid (show w'.cell? ⟨W.heap.size, 0, none⟩ = some (.slice p1 m1 c1) ∧ w'.cell? ⟨W.heap.size, 1, none⟩ = some (.slice p2 m2 c2) ∧ Lt W w' p1 m1 c1 p2 m2 c2 ∧ Below v3.heap.size v3 w' from by assumption)
  clear o1
  by_cases hz : wn = 0
  · subst hz
    go_wp2_with fail
    refine (HK.out _ SW.out.2.2.1.2).mono ?_
    rintro e v4 ⟨rfl, b4⟩
    have B4 := Lib.hid (tr SW.out.2.2.1.2 b4)
    clear b4
    go_wp2_with fail
    go_ret
    exact ⟨rfl, B4.out⟩
  have hz' : ¬ (wn : Int) = 0 := by omega
  have hz'' : ((wn : Int) == 0) = false := by rw [beq_eq_false_iff_ne]; omega
  obtain ⟨kn, hkn, hklt⟩ : ∃ kn : Nat, at_ % (wn : Int) = (kn : Int) ∧ kn < wn := by
    refine ⟨(at_ % (wn : Int)).toNat, ?_, ?_⟩
    · have := Int.emod_nonneg at_ (b := (wn : Int)) (by omega); omega
    · have := Int.emod_nonneg at_ (b := (wn : Int)) (by omega); have := Int.emod_lt_of_pos at_ (b := (wn : Int)) (by omega); omega
  have hwp : 0 < wn := by omega
  go_wp2_with (at_builtin; refine wpList_appU rfl (.const (.slice none 0 0)) (.tmp 86) rfl w'.heap.size rfl q wn kk wl rfl WN.out (RQ.out _ SW.out.2.2.2) hwp (by omega) (Nat.le_refl _) ?_; intro g kc w5 k5 hg5 b5; have K5 := Lib.hid k5; have B5 := Lib.hid b5; obtain ⟨⟨zk, ek⟩, fk, ks6⟩ := ks_at k5 WN.out hklt; have K6 := Lib.hid ks6; clear k5 b5 ks6)
  have B6 := Lib.hid (B5.out.setCell (p := ⟨g, kn, none⟩) hg5 (.int .u32 other))
  have S6 := Lib.hid (Ltb.conj L3.out (tr SW.out.2.2.2 B6.out))
  have CK := Lib.hid (K6.out other)
  clear ek fk K5 B5 K6 B6
  generalize w5.setCell ⟨g, kn, none⟩ (.int .u32 other) = w6 at *
  have RC := Lib.hid (fun (v : World) (hb : Below w6.heap.size w6 v) => (ks_ru2 CK.out (by rw [List.length_set]; exact WN.out)).below hb)
  have WS : (wl.set kn other).length = wn := by rw [List.length_set]; exact WN.out
  obtain ⟨yq, rfl⟩ : ∃ y, q = some y := by
    obtain ⟨y, hy, -⟩ := RQ.out _ (Below.refl _ _) 0 (wl[0]'(by have := WN.out; omega)) (List.getElem?_eq_getElem (by have := WN.out; omega))
    exact ⟨y, hy⟩
  obtain ⟨cl, hcl⟩ : ∃ x, wl.set kn other = x := ⟨_, rfl⟩
  rw [hcl] at RC WS
  have WC := Lib.hid WS
  clear hcl CK WS HFI HCX
  have hkn2 : kn ≤ 1000 := by omega
  have hkk : kn ≤ kk := by omega
  have hkk' : (kn : Int) ≤ (kk : Int) := by omega
  have hk0 : (0 : Int) ≤ (kn : Int) := by omega
  have HFI := Lib.hid (fun (v : World) (h : v.cell? ⟨W.heap.size, 0, none⟩ = some (.slice p1 m1 c1) ∧ v.cell? ⟨W.heap.size, 1, none⟩ = some (.slice p2 m2 c2) ∧ Lt W v p1 m1 c1 p2 m2 c2 ∧ Below v3.heap.size v3 v ∧ Below w6.heap.size w6 v) => first_any (w := v) (c1 := kk) (c2 := kc) WN.out WC.out (RQ.out v h.2.2.2.1) (RC.out v h.2.2.2.2) (by omega) (by omega))
  have HCX := Lib.hid (fun (v : World) (h : v.cell? ⟨W.heap.size, 0, none⟩ = some (.slice p1 m1 c1) ∧ v.cell? ⟨W.heap.size, 1, none⟩ = some (.slice p2 m2 c2) ∧ Lt W v p1 m1 c1 p2 m2 c2 ∧ Below v3.heap.size v3 v ∧ Below w6.heap.size w6 v) (p : Option Addr) (nn cc : Nat) (r : Int) (ho : (p = some ⟨g, 0, none⟩ ∧ nn = wn ∧ cc = kc ∧ r = firstI wl cl) ∨ (p = some yq ∧ nn = kn ∧ cc = kk ∧ r = (kn : Int))) => (show Calls Try.prog 17 #[ents p1 m1 c1 p2 m2 c2, .int .u32 k, .int .i64 n, .int .i64 b, .slice p nn cc, .int .i64 r, .int .i64 0] v fun e w' => e = .returned (.bool true) ∧ Below v.heap.size v w' from by
    rcases ho with ⟨rfl, rfl, rfl, rfl⟩ | ⟨rfl, rfl, rfl, rfl⟩
    · exact HCC.out v h.2.2.1.2 cl _ _ _ _ WC.out (RC.out v h.2.2.2.2) (by omega) rfl
    · exact HCC.out v h.2.2.1.2 (wl.take nn) _ _ _ _ (by rw [List.length_take, WN.out]; omega) ((RQ.out v h.2.2.2.1).take nn) (by omega) (firstI_take (by rw [WN.out]; exact hklt)).symm))
  go_region_held3 (fun w' => w'.cell? ⟨W.heap.size, 0, none⟩ = some (.slice p1 m1 c1) ∧ w'.cell? ⟨W.heap.size, 1, none⟩ = some (.slice p2 m2 c2) ∧ Lt W w' p1 m1 c1 p2 m2 c2 ∧ Below v3.heap.size v3 w' ∧ Below w6.heap.size w6 w')
    (first
      | (exact Ltc.conj S6.out (Below.drew (Below.refl _ _)))
      | (exact Ltc.keep o1 (by assumption))
      | assumption
      | fail)
    (first
      | (go_at_call 18; refine (HFI.out _ (by assumption)).mono ?_; rintro e w' ⟨rfl, o1⟩)
      | (go_at_call 17; refine (HCX.out _ (by assumption) _ _ _ _ (by first | exact .inl ⟨rfl, rfl, rfl, rfl⟩ | exact .inr ⟨rfl, rfl, rfl, rfl⟩)).mono ?_; rintro e w' ⟨rfl, o1⟩)
      | (go_at_call 8; refine (HK.out _ (Ltc.b (by assumption))).mono ?_; rintro e w' ⟨rfl, o1⟩)
      | fail)
  have BF := Lib.hid (Ltc.b (v := w') (by assumption))
  go_wp2_with fail
  go_ret
  exact ⟨rfl, BF.out⟩
end Go.Proofs.Ytlokilkhlhhjgaa.Vic
