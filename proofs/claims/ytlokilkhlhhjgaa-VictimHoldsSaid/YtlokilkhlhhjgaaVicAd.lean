/-
  Victims (layer 18): VictimHolds.
-/
import Derived.Test.YtlokilkhlhhjgaaVicAc
import Derived.StillTailTactics
set_option linter.unusedVariables false
set_option linter.unusedSimpArgs false
namespace Go.Proofs.Ytlokilkhlhhjgaa.Vic
open Go Go.RowKit Kit Go.Maps
theorem notk_nobody {l : List Wg} (h : Fin l l.length) : notk 4294967295 l = l := by
  unfold notk
  refine List.filter_eq_self.2 fun p hp => ?_
  obtain ⟨i, hi⟩ := List.getElem?_of_mem hp
  have := ((h i p (List.getElem?_eq_some_iff.1 hi).1 hi).1).1
  simp; omega
theorem fin_nodup {l : List Wg} (h : Fin l l.length) : (l.map (·.1)).Nodup := by
  refine List.pairwise_iff_getElem.2 fun i j hi hj hij => ?_
  rw [List.length_map] at hi hj
  rw [List.getElem_map, List.getElem_map]
  exact (h j l[j] hj (List.getElem?_eq_getElem hj)).2 i l[i] hij (List.getElem?_eq_getElem (by omega))
theorem left_take {l : List Wg} (h : Fin l l.length) (m : Nat) : left (slots (l.take m)) l = l.drop m := by
  have hd := fin_nodup h
  have e : left (slots (l.take m)) (l.take m ++ l.drop m) = l.drop m := by
    unfold left
    rw [List.filter_append]
    have h1 : (l.take m).filter (fun x => !(slots (l.take m)).contains x.1) = [] := by
      rw [List.filter_eq_nil_iff]
      intro x hx
      simp only [Bool.not_eq_true, Bool.not_eq_false', List.contains_iff_mem]
      unfold slots
      simpa using List.mem_map_of_mem (f := fun p : Wg => p.1) hx
    have h2 : (l.drop m).filter (fun x => !(slots (l.take m)).contains x.1) = l.drop m := by
      rw [List.filter_eq_self]
      intro x hx
      rw [← List.take_append_drop m l, List.map_append, List.nodup_append] at hd
      have h3 : x.1 ∉ slots (l.take m) := fun hm => by
        unfold slots at hm
        exact hd.2.2 _ hm _ (List.mem_map_of_mem (f := fun p : Wg => p.1) hx) rfl
      simpa using h3
    rw [h1, h2, List.nil_append]
  rwa [List.take_append_drop] at e
/-- within, where the first m entries are gone -/
theorem wi_take {l : List Wg} (h : Fin l l.length) {m : Nat} (hm : m ≤ l.length) (n b : Int) : (((left (slots (l.take m)) l).length : Int) ≤ n ∧ tot (left (slots (l.take m)) l) ≤ b) ↔ stays n b (l.length : Int) (tot l) l m := by
  rw [left_take h m, List.length_drop]
  have h1 := tot_append (l.take m) (l.drop m)
  rw [List.take_append_drop] at h1
  unfold stays
  constructor
  · rintro ⟨k1, k2⟩; constructor <;> omega
  · rintro ⟨k1, k2⟩; constructor <;> omega
theorem Vc.mono {n b n' b' N C : Int} {o : List Wg} {m m' : Nat} (h : Vc n b N C o m) (h' : Vc n' b' N C o m') (hn : n' ≤ n) (hb : b' ≤ b) : m ≤ m' := by
  rcases Nat.lt_or_ge m' m with hlt | hge
  · exfalso
    rcases h'.2.2 with he | hs
    · have := h.1; omega
    · exact h.2.1 m' hlt ⟨Int.le_trans hs.1 hn, Int.le_trans hs.2 hb⟩
  · exact hge
theorem Vc.fits {n b : Int} {l : List Wg} {m : Nat} (h : Vc n b (l.length : Int) (tot l) l m) (hn : 0 ≤ n) (hb : 0 ≤ b) : stays n b (l.length : Int) (tot l) l m := by
  rcases h.2.2 with he | hs
  · unfold stays
    rw [he, List.take_length]
    constructor <;> omega
  · exact hs
theorem wi_yes {e : Ending} {v w' : World} {n b : Int} {l : List Wg} {m : Nat} (h : WiR e n b (slots (l.take m)) l ∧ Below v.heap.size v w') (hf : Fin l l.length) (hm : m ≤ l.length) (hs : stays n b (l.length : Int) (tot l) l m) : e = .returned (.bool true) ∧ Below v.heap.size v w' := by
  obtain ⟨⟨x, rfl, hx⟩, hb⟩ := h
  have : x = true := hx.2 ((wi_take hf hm n b).2 hs)
  rw [this]
  exact ⟨rfl, hb⟩
theorem wi_no {e : Ending} {v w' : World} {n b : Int} {l : List Wg} {m : Nat} (h : WiR e n b (slots (l.take m)) l ∧ Below v.heap.size v w') (hf : Fin l l.length) (hm : m ≤ l.length) (hs : ¬ stays n b (l.length : Int) (tot l) l m) : e = .returned (.bool false) ∧ Below v.heap.size v w' := by
  obtain ⟨⟨x, rfl, hx⟩, hb⟩ := h
  have : x = false := by
    cases x
    · rfl
    · exact absurd ((wi_take hf hm n b).1 (hx.1 rfl)) hs
  rw [this]
  exact ⟨rfl, hb⟩
set_option maxRecDepth 100000 in
set_option maxHeartbeats 8000000 in
theorem lholds_any {W : World} {m1 c1 m2 c2 : Nat} {p1 p2 : Option Addr} {l1 l2 : List Wg} {n b fewer less : Int} (h1 : l1.length = m1) (h2 : l2.length = m2) (r1 : Rd W p1 l1) (r2 : Rd W p2 l2) (w1 : Wf l1) (w2 : Wf l2) (n0 : -9223372036854775808 ≤ n) (n1 : n ≤ 9223372036854775807) (b0 : -9223372036854775808 ≤ b) (b1 : b ≤ 9223372036854775807) (f0 : 0 ≤ fewer) (f1 : fewer ≤ 255) (g0 : 0 ≤ less) (g1 : less ≤ 255) (hk : Kn W) :
    Calls Try.prog 6 #[ents p1 m1 c1 p2 m2 c2, .int .i64 n, .int .i64 b, .int .u8 fewer, .int .u8 less] W fun e w' => e = .returned (.bool true) ∧ Below W.heap.size W w' := by
  have HK := Lib.hid hk
  clear hk
  by_cases hfew : m1 ≤ 60 ∧ m2 ≤ 60
  rotate_left
  · have HF := Lib.hid (fun (v : World) => few_no (c1 := c1) (c2 := c2) (p1 := p1) (p2 := p2) hfew v)
    clear hfew
    go_enter Try.func6, Try.ntmps6
    go_wp2_with fail
    have L0 := Lib.hid (Lt.new W p1 m1 c1 p2 m2 c2)
    refine (HF.out _).mono ?_
    rintro e v1 ⟨rfl, b1⟩
    have L1 := Lib.hid (L0.out.below b1)
    clear b1
    go_wp2_with fail
    refine (HK.out _ L1.out.2).mono ?_
    rintro e v4 ⟨rfl, b4⟩
    have B4 := Lib.hid (tr L1.out.2 b4)
    clear b4
    go_wp2_with fail
    go_ret
    exact ⟨rfl, B4.out⟩
  obtain ⟨q1, q2⟩ := hfew
  have HF := Lib.hid (fun (v : World) => few_yes (c1 := c1) (c2 := c2) (p1 := p1) (p2 := p2) q1 q2 v)
  have HFR := Lib.hid (fun (v : World) (hb : Below W.heap.size W v) => rfair_any (W := v) (c1 := c1) (c2 := c2) h1 h2 (r1.below hb) (r2.below hb) (by omega) (by omega))
  have HC := Lib.hid (fun (v : World) (hb : Below W.heap.size W v) (n b : Int) => Choose_any (W := v) (c1 := c1) (c2 := c2) (k := 4294967295) (n := n) (b := b) h1 h2 (r1.below hb) (r2.below hb) (by omega) (by omega) (w1.append w2))
  have HW := Lib.hid (fun (v : World) (hb : Below W.heap.size W v) hc gone p3 m3 c3 h3 r3 h4 => within_any (W := v) (c1 := c1) (c2 := c2) (n := n) (b := b) (gone := gone) (p3 := p3) (m3 := m3) (c3 := c3) h1 h2 (r1.below hb) (r2.below hb) (by omega) (by omega) hc h3 r3 h4)
  have HLN := Lib.hid (show (l1 ++ l2).length ≤ 200 from by rw [List.length_append]; omega)
  clear r1 r2 w1 w2 h1 h2
  go_enter Try.func6, Try.ntmps6
  go_wp2_with fail
  have L0 := Lib.hid (Lt.new W p1 m1 c1 p2 m2 c2)
  refine (HF.out _).mono ?_
  rintro e v1 ⟨rfl, b1⟩
  have L1 := Lib.hid (L0.out.below b1)
  obtain ⟨x0, x1⟩ := L1.out.1.two
  clear b1
  go_wp2_with fail
  refine (HFR.out _ L1.out.2).mono ?_
  rintro e v2 ⟨⟨b0, rfl, hv⟩, b2⟩
  have L2 := Lib.hid (L1.out.below b2)
  have HV := Lib.hid hv
  clear x0 x1 b2 hv
  obtain ⟨x0, x1⟩ := L2.out.1.two
  have hcase : (b0 = false ∨ (b0 = true ∧ n < 0) ∨ (b0 = true ∧ ¬ n < 0 ∧ b < 0)) ∨ (b0 = true ∧ ¬ n < 0 ∧ ¬ b < 0) := by cases b0 <;> simp; omega
  rcases hcase with hbad | ⟨rfl, k1, k2⟩
  · rcases hbad with rfl | ⟨rfl, h⟩ | ⟨rfl, h', h⟩
    all_goals (
      go_wp2_with fail
      refine (HK.out _ L2.out.2).mono ?_
      rintro e v4 ⟨rfl, b4⟩
      have B4 := Lib.hid (tr L2.out.2 b4)
      clear b4
      go_wp2_with fail
      go_ret
      exact ⟨rfl, B4.out⟩)
  have HFI := Lib.hid (HV.out.1 rfl)
  obtain ⟨ll, hll⟩ : ∃ x, l1 ++ l2 = x := ⟨_, rfl⟩
  rw [hll] at HFI HC HW HLN
  clear hll HV
  have OK := Lib.hid (show VOk n b ll from ⟨by omega, by omega, HFI.out⟩)
  go_wp2_with fail
  refine (HC.out _ L2.out.2 n b).mono ?_
  rintro e v3 ⟨ho, b3⟩
  obtain ⟨v, rfl, m, v', hv', hm, ks⟩ := ho.1 OK.out
  cases hv'
  rw [notk_nobody HFI.out] at hm ks
  have L3 := Lib.hid (L2.out.below b3)
  obtain ⟨q, kk, rfl, rq⟩ := ks_ru ks
  have hwk := ks_cap ks
  clear ho b3 ks x0 x1
  obtain ⟨x0, x1⟩ := L3.out.1.two
  have wn := IntWalk.i64_in (n - fewer) (by omega)
  have wb := IntWalk.i64_in (b - less) (by omega)
  have RQ := Lib.hid (fun (v : World) (hb : Below v3.heap.size v3 v) => rq.below hb)
  have HM := Lib.hid hm
  have hwl : (slots (ll.take m)).length = m := by unfold slots; rw [List.length_map, List.length_take]; have := hm.1; omega
  have hm200 : m ≤ 200 := by have := hm.1; have := HLN.out; omega
  rw [hwl] at hwk ⊢
  have HWL := Lib.hid hwl
  clear rq hm hwl
  have hc4 : (n ≤ fewer ∧ b ≤ less) ∨ (n ≤ fewer ∧ ¬ b ≤ less) ∨ (¬ n ≤ fewer ∧ b ≤ less) ∨ (¬ n ≤ fewer ∧ ¬ b ≤ less) := by omega
  rcases hc4 with ⟨u1, u2⟩ | ⟨u1, u2⟩ | ⟨u1, u2⟩ | ⟨u1, u2⟩
  · as_aux_lemma =>
    go_wp2_with fail
    refine (HC.out _ L3.out.2 _ _).mono ?_
    rintro e v4 ⟨ho, b4⟩
    obtain ⟨v, rfl, m', v', hv', hm', ks'⟩ := ho.1 ⟨by omega, by omega, HFI.out⟩
    cases hv'
    rw [notk_nobody HFI.out] at hm' ks'
    have hmm := HM.out.mono hm' (by omega) (by omega)
    have L4 := Lib.hid (L3.out.below b4)
    have B4 := Lib.hid b4
    obtain ⟨q', kk', rfl, rq'⟩ := ks_ru ks'
    have hwk' := ks_cap ks'
    have hwl' : (slots (ll.take m')).length = m' := by unfold slots; rw [List.length_map, List.length_take]; have := hm'.1; omega
    have hm2 : m' ≤ 200 := by have := hm'.1; have := HLN.out; omega
    rw [hwl'] at hwk' ⊢
    have RQ' := Lib.hid (fun (v : World) (hb : Below v4.heap.size v4 v) => rq'.below hb)
    have HWL' := Lib.hid hwl'
    have hmi : (m : Int) ≤ (m' : Int) := by omega
    have hmi2 : ¬ (m' : Int) < (m : Int) := by omega
    have hmk : m ≤ kk' := by omega
    have hmk' : (m : Int) ≤ (kk' : Int) := by omega
    clear ho b4 ks' rq' hm' hwl' x0 x1
    obtain ⟨x0, x1⟩ := L4.out.1.two
    have hst : slots (ll.take m) = (slots (ll.take m')).take m := by
      unfold slots; rw [← List.map_take, List.take_take, Nat.min_eq_left hmm]
    have R2 := Lib.hid ((RQ'.out v4 (Below.refl _ _)).take m)
    rw [← hst] at R2
    clear hst
    go_wp2_with fail
    refine (rsame_any HWL.out HWL.out (RQ.out _ B4.out) R2.out (by omega) (by omega)).mono ?_
    rintro e v5 ⟨⟨v, rfl, hv⟩, b5⟩
    obtain rfl : v = true := hv.2 (by trivial)
    have L5 := Lib.hid (L4.out.below b5)
    have B5 := Lib.hid (tr B4.out b5)
    clear hv b5 x0 x1 R2 RQ'
    obtain ⟨x0, x1⟩ := L5.out.1.two
    have HW1 := Lib.hid (fun (v : World) (hb : Below W.heap.size W v) h => (HW.out v hb (Costs.of_fin HFI.out) (slots (ll.take m)) q m kk HWL.out h (by omega)).mono fun e w' h => (wi_yes h HFI.out HM.out.1 (HM.out.fits k1 k2) : e = .returned (.bool true) ∧ Below v.heap.size v w'))
    have LD := Lib.hid (L5.out.below (Below.drew (Below.refl v5.heap.size v5)))
    have BD := Lib.hid (tr B5.out (Below.drew (Below.refl v5.heap.size v5)))
    by_cases hm0 : m = 0
    · subst hm0
      go_wp2_with fail
      refine wp_region_held_drew (S := fun w' => w'.cell? ⟨W.heap.size, 0, none⟩ = some (.slice p1 m1 c1) ∧ w'.cell? ⟨W.heap.size, 1, none⟩ = some (.slice p2 m2 c2) ∧ Lt W w' p1 m1 c1 p2 m2 c2) (by kernel_rfl) (Lt.conj LD.out) (fun hHeld => ?_)
      refine wpAnyH_take (i := 0) (v := ?_) rfl (by kernel_rfl) (by kernel_rfl) (by kernel_rfl) (fun _ _ _ h => h) (Or.inl ⟨by rfl, ?_⟩) hHeld ?_
      rotate_left
      · intro w hSw
        try dsimp only at hSw
        go_simp
        all_goals with_reducible rfl
      try simp only [Act.put, List.setIfInBounds_toArray, List.set_cons_zero, List.set_cons_succ, List.getElem_toArray, List.getElem_cons_zero, List.getElem_cons_succ]
      refine wpAnyH_take (i := 1) (v := ?_) rfl (by kernel_rfl) (by kernel_rfl) (by kernel_rfl) (fun _ _ _ h => h) (Or.inl ⟨by rfl, ?_⟩) hHeld ?_
      rotate_left
      · intro w hSw
        try dsimp only at hSw
        go_simp
        all_goals with_reducible rfl
      try simp only [Act.put, List.setIfInBounds_toArray, List.set_cons_zero, List.set_cons_succ, List.getElem_toArray, List.getElem_cons_zero, List.getElem_cons_succ]
      refine wpAnyH_take (i := 2) (v := ?_) rfl (by kernel_rfl) (by kernel_rfl) (by kernel_rfl) (fun _ _ _ h => h) (Or.inl ⟨by rfl, ?_⟩) hHeld ?_
      rotate_left
      · intro w hSw
        try dsimp only at hSw
        go_simp
        all_goals with_reducible rfl
      try simp only [Act.put, List.setIfInBounds_toArray, List.set_cons_zero, List.set_cons_succ, List.getElem_toArray, List.getElem_cons_zero, List.getElem_cons_succ]
      refine wpAnyH_take (i := 3) (v := ?_) rfl (by kernel_rfl) (by kernel_rfl) (by kernel_rfl) (fun _ _ _ h => h) (Or.inl ⟨by rfl, ?_⟩) hHeld ?_
      rotate_left
      · intro w hSw
        try dsimp only at hSw
        go_simp
        all_goals with_reducible rfl
      try simp only [Act.put, List.setIfInBounds_toArray, List.set_cons_zero, List.set_cons_succ, List.getElem_toArray, List.getElem_cons_zero, List.getElem_cons_succ]
      refine wpAnyH_ready (rs := [4]) (by kernel_rfl) (by simp) ?_
      refine AllReadyH.cons rfl (fun K hK => ?_) AllReadyH.nil
      go_simp
      refine (HW1.out _ LD.out.2 (RQ.out _ BD.out)).mono ?_
      rintro e v6 ⟨rfl, b6⟩
      have L6 := Lib.hid (LD.out.below b6)
      clear b6 x0 x1
      try simp only []
      refine hK.out _ _ (Lt.conj L6.out) (fun hHeld => ?_)
      clear hK K
      try simp only [Act.put, List.setIfInBounds_toArray, List.set_cons_zero, List.set_cons_succ, List.getElem_toArray, List.getElem_cons_zero, List.getElem_cons_succ]
      refine wpAnyH_take (i := 5) (v := ?_) rfl (by kernel_rfl) (by kernel_rfl) (by kernel_rfl) (fun _ _ _ h => h) (Or.inl ⟨by rfl, ?_⟩) hHeld ?_
      rotate_left
      · intro w hSw
        try dsimp only at hSw
        go_simp
        all_goals with_reducible rfl
      try simp only [Act.put, List.setIfInBounds_toArray, List.set_cons_zero, List.set_cons_succ, List.getElem_toArray, List.getElem_cons_zero, List.getElem_cons_succ]
      refine wpAnyH_take (i := 6) (v := ?_) rfl (by kernel_rfl) (by kernel_rfl) (by kernel_rfl) (fun _ _ _ h => h) (Or.inl ⟨by rfl, ?_⟩) hHeld ?_
      rotate_left
      · intro w hSw
        try dsimp only at hSw
        go_simp
        all_goals with_reducible rfl
      try simp only [Act.put, List.setIfInBounds_toArray, List.set_cons_zero, List.set_cons_succ, List.getElem_toArray, List.getElem_cons_zero, List.getElem_cons_succ]
      refine wpAnyH_take (i := 7) (v := ?_) rfl (by kernel_rfl) (by kernel_rfl) (by kernel_rfl) (fun _ _ _ h => h) (Or.inl ⟨by rfl, ?_⟩) hHeld ?_
      rotate_left
      · intro w hSw
        try dsimp only at hSw
        go_simp
        all_goals with_reducible rfl
      try simp only [Act.put, List.setIfInBounds_toArray, List.set_cons_zero, List.set_cons_succ, List.getElem_toArray, List.getElem_cons_zero, List.getElem_cons_succ]
      refine wpAnyH_take (i := 8) (v := ?_) rfl (by kernel_rfl) (by kernel_rfl) (by kernel_rfl) (fun _ _ _ h => h) (Or.inl ⟨by rfl, ?_⟩) hHeld ?_
      rotate_left
      · intro w hSw
        try dsimp only at hSw
        go_simp
        all_goals with_reducible rfl
      try simp only [Act.put, List.setIfInBounds_toArray, List.set_cons_zero, List.set_cons_succ, List.getElem_toArray, List.getElem_cons_zero, List.getElem_cons_succ]
      refine wpAnyH_take (i := 9) (v := ?_) rfl (by kernel_rfl) (by kernel_rfl) (by kernel_rfl) (fun _ _ _ h => h) (Or.inl ⟨by rfl, ?_⟩) hHeld ?_
      rotate_left
      · intro w hSw
        try dsimp only at hSw
        go_simp
        all_goals with_reducible rfl
      try simp only [Act.put, List.setIfInBounds_toArray, List.set_cons_zero, List.set_cons_succ, List.getElem_toArray, List.getElem_cons_zero, List.getElem_cons_succ]
      refine wpAnyH_take (i := 10) (v := ?_) rfl (by kernel_rfl) (by kernel_rfl) (by kernel_rfl) (fun _ _ _ h => h) (Or.inl ⟨by rfl, ?_⟩) hHeld ?_
      rotate_left
      · intro w hSw
        try dsimp only at hSw
        go_simp
        all_goals with_reducible rfl
      try simp only [Act.put, List.setIfInBounds_toArray, List.set_cons_zero, List.set_cons_succ, List.getElem_toArray, List.getElem_cons_zero, List.getElem_cons_succ]
      refine wpAnyH_take (i := 11) (v := undef) rfl (by kernel_rfl) (by kernel_rfl) (by kernel_rfl) (fun _ _ _ h => h) (Or.inr ⟨by rfl, rfl⟩) hHeld ?_
      try simp only [Act.put, List.setIfInBounds_toArray, List.set_cons_zero, List.set_cons_succ, List.getElem_toArray, List.getElem_cons_zero, List.getElem_cons_succ]
      refine wpAnyH_take (i := 12) (v := undef) rfl (by kernel_rfl) (by kernel_rfl) (by kernel_rfl) (fun _ _ _ h => h) (Or.inr ⟨by rfl, rfl⟩) hHeld ?_
      try simp only [Act.put, List.setIfInBounds_toArray, List.set_cons_zero, List.set_cons_succ, List.getElem_toArray, List.getElem_cons_zero, List.getElem_cons_succ]
      refine wpAnyH_take (i := 13) (v := undef) rfl (by kernel_rfl) (by kernel_rfl) (by kernel_rfl) (fun _ _ _ h => h) (Or.inr ⟨by rfl, rfl⟩) hHeld ?_
      try simp only [Act.put, List.setIfInBounds_toArray, List.set_cons_zero, List.set_cons_succ, List.getElem_toArray, List.getElem_cons_zero, List.getElem_cons_succ]
      refine wpAnyH_take (i := 14) (v := undef) rfl (by kernel_rfl) (by kernel_rfl) (by kernel_rfl) (fun _ _ _ h => h) (Or.inr ⟨by rfl, rfl⟩) hHeld ?_
      try simp only [Act.put, List.setIfInBounds_toArray, List.set_cons_zero, List.set_cons_succ, List.getElem_toArray, List.getElem_cons_zero, List.getElem_cons_succ]
      refine wpAnyH_take (i := 15) (v := undef) rfl (by kernel_rfl) (by kernel_rfl) (by kernel_rfl) (fun _ _ _ h => h) (Or.inr ⟨by rfl, rfl⟩) hHeld ?_
      try simp only [Act.put, List.setIfInBounds_toArray, List.set_cons_zero, List.set_cons_succ, List.getElem_toArray, List.getElem_cons_zero, List.getElem_cons_succ]
      refine wpAnyH_take (i := 16) (v := undef) rfl (by kernel_rfl) (by kernel_rfl) (by kernel_rfl) (fun _ _ _ h => h) (Or.inr ⟨by rfl, rfl⟩) hHeld ?_
      try simp only [Act.put, List.setIfInBounds_toArray, List.set_cons_zero, List.set_cons_succ, List.getElem_toArray, List.getElem_cons_zero, List.getElem_cons_succ]
      refine wpAnyH_take (i := 17) (v := undef) rfl (by kernel_rfl) (by kernel_rfl) (by kernel_rfl) (fun _ _ _ h => h) (Or.inr ⟨by rfl, rfl⟩) hHeld ?_
      try simp only [Act.put, List.setIfInBounds_toArray, List.set_cons_zero, List.set_cons_succ, List.getElem_toArray, List.getElem_cons_zero, List.getElem_cons_succ]
      refine wpAnyH_take (i := 18) (v := undef) rfl (by kernel_rfl) (by kernel_rfl) (by kernel_rfl) (fun _ _ _ h => h) (Or.inr ⟨by rfl, rfl⟩) hHeld ?_
      try simp only [Act.put, List.setIfInBounds_toArray, List.set_cons_zero, List.set_cons_succ, List.getElem_toArray, List.getElem_cons_zero, List.getElem_cons_succ]
      refine wpAnyH_ready (rs := [19]) (by kernel_rfl) (by simp) ?_
      refine AllReadyH.cons rfl (fun K hK => ?_) AllReadyH.nil
      go_simp
      refine hK.out _ _ hHeld (fun hHeld => ?_)
      clear hK K
      try simp only [Act.put, List.setIfInBounds_toArray, List.set_cons_zero, List.set_cons_succ, List.getElem_toArray, List.getElem_cons_zero, List.getElem_cons_succ]
      refine wpAnyH_take (i := 20) (v := ?_) rfl (by kernel_rfl) (by kernel_rfl) (by kernel_rfl) (fun _ _ _ h => h) (Or.inl ⟨by rfl, ?_⟩) hHeld ?_
      rotate_left
      · intro w hSw
        try dsimp only at hSw
        go_simp
        all_goals with_reducible rfl
      try simp only [Act.put, List.setIfInBounds_toArray, List.set_cons_zero, List.set_cons_succ, List.getElem_toArray, List.getElem_cons_zero, List.getElem_cons_succ]
      refine wpAnyH_take (i := 21) (v := ?_) rfl (by kernel_rfl) (by kernel_rfl) (by kernel_rfl) (fun _ _ _ h => h) (Or.inl ⟨by rfl, ?_⟩) hHeld ?_
      rotate_left
      · intro w hSw
        try dsimp only at hSw
        go_simp
        all_goals with_reducible rfl
      try simp only [Act.put, List.setIfInBounds_toArray, List.set_cons_zero, List.set_cons_succ, List.getElem_toArray, List.getElem_cons_zero, List.getElem_cons_succ]
      refine wpAnyH_done (by kernel_rfl) ?_ _
      go_wp2_with fail
      refine (HK.out _ L6.out.2).mono ?_
      rintro e v7 ⟨rfl, b7⟩
      have B7 := Lib.hid (tr L6.out.2 b7)
      clear b7
      go_wp2_with fail
      go_ret
      exact ⟨rfl, B7.out⟩
    · have hm1 : (0 : Int) < (m : Int) := by omega
      obtain ⟨mm, hmm1⟩ : ∃ mm, m = mm + 1 := ⟨m - 1, by omega⟩
      have HMM := Lib.hid (show ((m : Int) - 1) = (mm : Int) from by omega)
      have wm : IntKind.i64.wrap ((m : Int) - 1) = (mm : Int) := by rw [IntWalk.i64_in ((m : Int) - 1) (by omega)]; omega
      have hmk2 : (mm : Int) ≤ (kk : Int) := by omega
      have hm02 : (0 : Int) ≤ (mm : Int) := by omega
      have HTK := Lib.hid (show slots (ll.take mm) = (slots (ll.take m)).take mm from by unfold slots; rw [← List.map_take, List.take_take, Nat.min_eq_left (by omega)])
      have hl6 : (slots (ll.take mm)).length = mm := by rw [HTK.out, List.length_take, HWL.out]; omega
      have HW2 := Lib.hid (fun (v : World) (hb : Below W.heap.size W v) h => (HW.out v hb (Costs.of_fin HFI.out) (slots (ll.take mm)) q mm kk hl6 h (by omega)).mono fun e w' h => (wi_no h HFI.out (by have := HM.out.1; omega) (HM.out.2.1 mm (by omega)) : e = .returned (.bool false) ∧ Below v.heap.size v w'))
      have HWX := Lib.hid (fun (v : World) (h : v.cell? ⟨W.heap.size, 0, none⟩ = some (.slice p1 m1 c1) ∧ v.cell? ⟨W.heap.size, 1, none⟩ = some (.slice p2 m2 c2) ∧ Lt W v p1 m1 c1 p2 m2 c2 ∧ Below v3.heap.size v3 v) (k : Nat) (ho : k = m ∨ k = mm) => (show Calls Try.prog 21 #[ents p1 m1 c1 p2 m2 c2, .slice q k kk, .int .i64 n, .int .i64 b] v fun e w' => e = .returned (.bool (decide (k = m))) ∧ Below v.heap.size v w' from by
        rcases ho with rfl | rfl
        · simpa using HW1.out v h.2.2.1.2 (RQ.out v h.2.2.2)
        · have hne : ¬ k = m := by omega
          have := HW2.out v h.2.2.1.2 (by rw [HTK.out]; exact (RQ.out v h.2.2.2).take k)
          simpa [hne] using this))
      have dm : decide (mm = m) = false := by simp; omega
      have dp1 : decide (0 < m) = true := by simp; omega
      have dp2 : decide ((0 : Int) < (m : Int)) = true := by simp; omega
      clear hmm1 hl6
      go_wp2_with fail
      clear x0 x1
      go_region_held3 (fun w' => w'.cell? ⟨W.heap.size, 0, none⟩ = some (.slice p1 m1 c1) ∧ w'.cell? ⟨W.heap.size, 1, none⟩ = some (.slice p2 m2 c2) ∧ Lt W w' p1 m1 c1 p2 m2 c2 ∧ Below v3.heap.size v3 w')
        (first
          | (exact ⟨LD.out.1.two.1, LD.out.1.two.2, LD.out, BD.out⟩)
          | (exact Ltb.keep L3.out o1 (by assumption))
          | assumption
          | fail)
        (first
          | (go_at_call 21; refine (HWX.out _ (by assumption) _ (by first | exact .inl rfl | exact .inr rfl)).mono ?_; rintro e w' ⟨rfl, o1⟩)
          | fail)
      have L7 := Lib.hid ((show w'.cell? ⟨W.heap.size, 0, none⟩ = some (.slice p1 m1 c1) ∧ w'.cell? ⟨W.heap.size, 1, none⟩ = some (.slice p2 m2 c2) ∧ Lt W w' p1 m1 c1 p2 m2 c2 ∧ Below v3.heap.size v3 w' from by assumption).2.2.1)
      clear o1
      go_wp2_with fail
      refine (HK.out _ L7.out.2).mono ?_
      rintro e v8 ⟨rfl, b8⟩
      have B8 := Lib.hid (tr L7.out.2 b8)
      clear b8
      go_wp2_with fail
      go_ret
      exact ⟨rfl, B8.out⟩
  · as_aux_lemma =>
    go_wp2_with fail
    refine (HC.out _ L3.out.2 _ _).mono ?_
    rintro e v4 ⟨ho, b4⟩
    obtain ⟨v, rfl, m', v', hv', hm', ks'⟩ := ho.1 ⟨by omega, by omega, HFI.out⟩
    cases hv'
    rw [notk_nobody HFI.out] at hm' ks'
    have hmm := HM.out.mono hm' (by omega) (by omega)
    have L4 := Lib.hid (L3.out.below b4)
    have B4 := Lib.hid b4
    obtain ⟨q', kk', rfl, rq'⟩ := ks_ru ks'
    have hwk' := ks_cap ks'
    have hwl' : (slots (ll.take m')).length = m' := by unfold slots; rw [List.length_map, List.length_take]; have := hm'.1; omega
    have hm2 : m' ≤ 200 := by have := hm'.1; have := HLN.out; omega
    rw [hwl'] at hwk' ⊢
    have RQ' := Lib.hid (fun (v : World) (hb : Below v4.heap.size v4 v) => rq'.below hb)
    have HWL' := Lib.hid hwl'
    have hmi : (m : Int) ≤ (m' : Int) := by omega
    have hmi2 : ¬ (m' : Int) < (m : Int) := by omega
    have hmk : m ≤ kk' := by omega
    have hmk' : (m : Int) ≤ (kk' : Int) := by omega
    clear ho b4 ks' rq' hm' hwl' x0 x1
    obtain ⟨x0, x1⟩ := L4.out.1.two
    have hst : slots (ll.take m) = (slots (ll.take m')).take m := by
      unfold slots; rw [← List.map_take, List.take_take, Nat.min_eq_left hmm]
    have R2 := Lib.hid ((RQ'.out v4 (Below.refl _ _)).take m)
    rw [← hst] at R2
    clear hst
    go_wp2_with fail
    refine (rsame_any HWL.out HWL.out (RQ.out _ B4.out) R2.out (by omega) (by omega)).mono ?_
    rintro e v5 ⟨⟨v, rfl, hv⟩, b5⟩
    obtain rfl : v = true := hv.2 (by trivial)
    have L5 := Lib.hid (L4.out.below b5)
    have B5 := Lib.hid (tr B4.out b5)
    clear hv b5 x0 x1 R2 RQ'
    obtain ⟨x0, x1⟩ := L5.out.1.two
    have HW1 := Lib.hid (fun (v : World) (hb : Below W.heap.size W v) h => (HW.out v hb (Costs.of_fin HFI.out) (slots (ll.take m)) q m kk HWL.out h (by omega)).mono fun e w' h => (wi_yes h HFI.out HM.out.1 (HM.out.fits k1 k2) : e = .returned (.bool true) ∧ Below v.heap.size v w'))
    have LD := Lib.hid (L5.out.below (Below.drew (Below.refl v5.heap.size v5)))
    have BD := Lib.hid (tr B5.out (Below.drew (Below.refl v5.heap.size v5)))
    by_cases hm0 : m = 0
    · subst hm0
      go_wp2_with fail
      refine wp_region_held_drew (S := fun w' => w'.cell? ⟨W.heap.size, 0, none⟩ = some (.slice p1 m1 c1) ∧ w'.cell? ⟨W.heap.size, 1, none⟩ = some (.slice p2 m2 c2) ∧ Lt W w' p1 m1 c1 p2 m2 c2) (by kernel_rfl) (Lt.conj LD.out) (fun hHeld => ?_)
      refine wpAnyH_take (i := 0) (v := ?_) rfl (by kernel_rfl) (by kernel_rfl) (by kernel_rfl) (fun _ _ _ h => h) (Or.inl ⟨by rfl, ?_⟩) hHeld ?_
      rotate_left
      · intro w hSw
        try dsimp only at hSw
        go_simp
        all_goals with_reducible rfl
      try simp only [Act.put, List.setIfInBounds_toArray, List.set_cons_zero, List.set_cons_succ, List.getElem_toArray, List.getElem_cons_zero, List.getElem_cons_succ]
      refine wpAnyH_take (i := 1) (v := ?_) rfl (by kernel_rfl) (by kernel_rfl) (by kernel_rfl) (fun _ _ _ h => h) (Or.inl ⟨by rfl, ?_⟩) hHeld ?_
      rotate_left
      · intro w hSw
        try dsimp only at hSw
        go_simp
        all_goals with_reducible rfl
      try simp only [Act.put, List.setIfInBounds_toArray, List.set_cons_zero, List.set_cons_succ, List.getElem_toArray, List.getElem_cons_zero, List.getElem_cons_succ]
      refine wpAnyH_take (i := 2) (v := ?_) rfl (by kernel_rfl) (by kernel_rfl) (by kernel_rfl) (fun _ _ _ h => h) (Or.inl ⟨by rfl, ?_⟩) hHeld ?_
      rotate_left
      · intro w hSw
        try dsimp only at hSw
        go_simp
        all_goals with_reducible rfl
      try simp only [Act.put, List.setIfInBounds_toArray, List.set_cons_zero, List.set_cons_succ, List.getElem_toArray, List.getElem_cons_zero, List.getElem_cons_succ]
      refine wpAnyH_take (i := 3) (v := ?_) rfl (by kernel_rfl) (by kernel_rfl) (by kernel_rfl) (fun _ _ _ h => h) (Or.inl ⟨by rfl, ?_⟩) hHeld ?_
      rotate_left
      · intro w hSw
        try dsimp only at hSw
        go_simp
        all_goals with_reducible rfl
      try simp only [Act.put, List.setIfInBounds_toArray, List.set_cons_zero, List.set_cons_succ, List.getElem_toArray, List.getElem_cons_zero, List.getElem_cons_succ]
      refine wpAnyH_ready (rs := [4]) (by kernel_rfl) (by simp) ?_
      refine AllReadyH.cons rfl (fun K hK => ?_) AllReadyH.nil
      go_simp
      refine (HW1.out _ LD.out.2 (RQ.out _ BD.out)).mono ?_
      rintro e v6 ⟨rfl, b6⟩
      have L6 := Lib.hid (LD.out.below b6)
      clear b6 x0 x1
      try simp only []
      refine hK.out _ _ (Lt.conj L6.out) (fun hHeld => ?_)
      clear hK K
      try simp only [Act.put, List.setIfInBounds_toArray, List.set_cons_zero, List.set_cons_succ, List.getElem_toArray, List.getElem_cons_zero, List.getElem_cons_succ]
      refine wpAnyH_take (i := 5) (v := ?_) rfl (by kernel_rfl) (by kernel_rfl) (by kernel_rfl) (fun _ _ _ h => h) (Or.inl ⟨by rfl, ?_⟩) hHeld ?_
      rotate_left
      · intro w hSw
        try dsimp only at hSw
        go_simp
        all_goals with_reducible rfl
      try simp only [Act.put, List.setIfInBounds_toArray, List.set_cons_zero, List.set_cons_succ, List.getElem_toArray, List.getElem_cons_zero, List.getElem_cons_succ]
      refine wpAnyH_take (i := 6) (v := ?_) rfl (by kernel_rfl) (by kernel_rfl) (by kernel_rfl) (fun _ _ _ h => h) (Or.inl ⟨by rfl, ?_⟩) hHeld ?_
      rotate_left
      · intro w hSw
        try dsimp only at hSw
        go_simp
        all_goals with_reducible rfl
      try simp only [Act.put, List.setIfInBounds_toArray, List.set_cons_zero, List.set_cons_succ, List.getElem_toArray, List.getElem_cons_zero, List.getElem_cons_succ]
      refine wpAnyH_take (i := 7) (v := ?_) rfl (by kernel_rfl) (by kernel_rfl) (by kernel_rfl) (fun _ _ _ h => h) (Or.inl ⟨by rfl, ?_⟩) hHeld ?_
      rotate_left
      · intro w hSw
        try dsimp only at hSw
        go_simp
        all_goals with_reducible rfl
      try simp only [Act.put, List.setIfInBounds_toArray, List.set_cons_zero, List.set_cons_succ, List.getElem_toArray, List.getElem_cons_zero, List.getElem_cons_succ]
      refine wpAnyH_take (i := 8) (v := ?_) rfl (by kernel_rfl) (by kernel_rfl) (by kernel_rfl) (fun _ _ _ h => h) (Or.inl ⟨by rfl, ?_⟩) hHeld ?_
      rotate_left
      · intro w hSw
        try dsimp only at hSw
        go_simp
        all_goals with_reducible rfl
      try simp only [Act.put, List.setIfInBounds_toArray, List.set_cons_zero, List.set_cons_succ, List.getElem_toArray, List.getElem_cons_zero, List.getElem_cons_succ]
      refine wpAnyH_take (i := 9) (v := ?_) rfl (by kernel_rfl) (by kernel_rfl) (by kernel_rfl) (fun _ _ _ h => h) (Or.inl ⟨by rfl, ?_⟩) hHeld ?_
      rotate_left
      · intro w hSw
        try dsimp only at hSw
        go_simp
        all_goals with_reducible rfl
      try simp only [Act.put, List.setIfInBounds_toArray, List.set_cons_zero, List.set_cons_succ, List.getElem_toArray, List.getElem_cons_zero, List.getElem_cons_succ]
      refine wpAnyH_take (i := 10) (v := ?_) rfl (by kernel_rfl) (by kernel_rfl) (by kernel_rfl) (fun _ _ _ h => h) (Or.inl ⟨by rfl, ?_⟩) hHeld ?_
      rotate_left
      · intro w hSw
        try dsimp only at hSw
        go_simp
        all_goals with_reducible rfl
      try simp only [Act.put, List.setIfInBounds_toArray, List.set_cons_zero, List.set_cons_succ, List.getElem_toArray, List.getElem_cons_zero, List.getElem_cons_succ]
      refine wpAnyH_take (i := 11) (v := undef) rfl (by kernel_rfl) (by kernel_rfl) (by kernel_rfl) (fun _ _ _ h => h) (Or.inr ⟨by rfl, rfl⟩) hHeld ?_
      try simp only [Act.put, List.setIfInBounds_toArray, List.set_cons_zero, List.set_cons_succ, List.getElem_toArray, List.getElem_cons_zero, List.getElem_cons_succ]
      refine wpAnyH_take (i := 12) (v := undef) rfl (by kernel_rfl) (by kernel_rfl) (by kernel_rfl) (fun _ _ _ h => h) (Or.inr ⟨by rfl, rfl⟩) hHeld ?_
      try simp only [Act.put, List.setIfInBounds_toArray, List.set_cons_zero, List.set_cons_succ, List.getElem_toArray, List.getElem_cons_zero, List.getElem_cons_succ]
      refine wpAnyH_take (i := 13) (v := undef) rfl (by kernel_rfl) (by kernel_rfl) (by kernel_rfl) (fun _ _ _ h => h) (Or.inr ⟨by rfl, rfl⟩) hHeld ?_
      try simp only [Act.put, List.setIfInBounds_toArray, List.set_cons_zero, List.set_cons_succ, List.getElem_toArray, List.getElem_cons_zero, List.getElem_cons_succ]
      refine wpAnyH_take (i := 14) (v := undef) rfl (by kernel_rfl) (by kernel_rfl) (by kernel_rfl) (fun _ _ _ h => h) (Or.inr ⟨by rfl, rfl⟩) hHeld ?_
      try simp only [Act.put, List.setIfInBounds_toArray, List.set_cons_zero, List.set_cons_succ, List.getElem_toArray, List.getElem_cons_zero, List.getElem_cons_succ]
      refine wpAnyH_take (i := 15) (v := undef) rfl (by kernel_rfl) (by kernel_rfl) (by kernel_rfl) (fun _ _ _ h => h) (Or.inr ⟨by rfl, rfl⟩) hHeld ?_
      try simp only [Act.put, List.setIfInBounds_toArray, List.set_cons_zero, List.set_cons_succ, List.getElem_toArray, List.getElem_cons_zero, List.getElem_cons_succ]
      refine wpAnyH_take (i := 16) (v := undef) rfl (by kernel_rfl) (by kernel_rfl) (by kernel_rfl) (fun _ _ _ h => h) (Or.inr ⟨by rfl, rfl⟩) hHeld ?_
      try simp only [Act.put, List.setIfInBounds_toArray, List.set_cons_zero, List.set_cons_succ, List.getElem_toArray, List.getElem_cons_zero, List.getElem_cons_succ]
      refine wpAnyH_take (i := 17) (v := undef) rfl (by kernel_rfl) (by kernel_rfl) (by kernel_rfl) (fun _ _ _ h => h) (Or.inr ⟨by rfl, rfl⟩) hHeld ?_
      try simp only [Act.put, List.setIfInBounds_toArray, List.set_cons_zero, List.set_cons_succ, List.getElem_toArray, List.getElem_cons_zero, List.getElem_cons_succ]
      refine wpAnyH_take (i := 18) (v := undef) rfl (by kernel_rfl) (by kernel_rfl) (by kernel_rfl) (fun _ _ _ h => h) (Or.inr ⟨by rfl, rfl⟩) hHeld ?_
      try simp only [Act.put, List.setIfInBounds_toArray, List.set_cons_zero, List.set_cons_succ, List.getElem_toArray, List.getElem_cons_zero, List.getElem_cons_succ]
      refine wpAnyH_ready (rs := [19]) (by kernel_rfl) (by simp) ?_
      refine AllReadyH.cons rfl (fun K hK => ?_) AllReadyH.nil
      go_simp
      refine hK.out _ _ hHeld (fun hHeld => ?_)
      clear hK K
      try simp only [Act.put, List.setIfInBounds_toArray, List.set_cons_zero, List.set_cons_succ, List.getElem_toArray, List.getElem_cons_zero, List.getElem_cons_succ]
      refine wpAnyH_take (i := 20) (v := ?_) rfl (by kernel_rfl) (by kernel_rfl) (by kernel_rfl) (fun _ _ _ h => h) (Or.inl ⟨by rfl, ?_⟩) hHeld ?_
      rotate_left
      · intro w hSw
        try dsimp only at hSw
        go_simp
        all_goals with_reducible rfl
      try simp only [Act.put, List.setIfInBounds_toArray, List.set_cons_zero, List.set_cons_succ, List.getElem_toArray, List.getElem_cons_zero, List.getElem_cons_succ]
      refine wpAnyH_take (i := 21) (v := ?_) rfl (by kernel_rfl) (by kernel_rfl) (by kernel_rfl) (fun _ _ _ h => h) (Or.inl ⟨by rfl, ?_⟩) hHeld ?_
      rotate_left
      · intro w hSw
        try dsimp only at hSw
        go_simp
        all_goals with_reducible rfl
      try simp only [Act.put, List.setIfInBounds_toArray, List.set_cons_zero, List.set_cons_succ, List.getElem_toArray, List.getElem_cons_zero, List.getElem_cons_succ]
      refine wpAnyH_done (by kernel_rfl) ?_ _
      go_wp2_with fail
      refine (HK.out _ L6.out.2).mono ?_
      rintro e v7 ⟨rfl, b7⟩
      have B7 := Lib.hid (tr L6.out.2 b7)
      clear b7
      go_wp2_with fail
      go_ret
      exact ⟨rfl, B7.out⟩
    · have hm1 : (0 : Int) < (m : Int) := by omega
      obtain ⟨mm, hmm1⟩ : ∃ mm, m = mm + 1 := ⟨m - 1, by omega⟩
      have HMM := Lib.hid (show ((m : Int) - 1) = (mm : Int) from by omega)
      have wm : IntKind.i64.wrap ((m : Int) - 1) = (mm : Int) := by rw [IntWalk.i64_in ((m : Int) - 1) (by omega)]; omega
      have hmk2 : (mm : Int) ≤ (kk : Int) := by omega
      have hm02 : (0 : Int) ≤ (mm : Int) := by omega
      have HTK := Lib.hid (show slots (ll.take mm) = (slots (ll.take m)).take mm from by unfold slots; rw [← List.map_take, List.take_take, Nat.min_eq_left (by omega)])
      have hl6 : (slots (ll.take mm)).length = mm := by rw [HTK.out, List.length_take, HWL.out]; omega
      have HW2 := Lib.hid (fun (v : World) (hb : Below W.heap.size W v) h => (HW.out v hb (Costs.of_fin HFI.out) (slots (ll.take mm)) q mm kk hl6 h (by omega)).mono fun e w' h => (wi_no h HFI.out (by have := HM.out.1; omega) (HM.out.2.1 mm (by omega)) : e = .returned (.bool false) ∧ Below v.heap.size v w'))
      have HWX := Lib.hid (fun (v : World) (h : v.cell? ⟨W.heap.size, 0, none⟩ = some (.slice p1 m1 c1) ∧ v.cell? ⟨W.heap.size, 1, none⟩ = some (.slice p2 m2 c2) ∧ Lt W v p1 m1 c1 p2 m2 c2 ∧ Below v3.heap.size v3 v) (k : Nat) (ho : k = m ∨ k = mm) => (show Calls Try.prog 21 #[ents p1 m1 c1 p2 m2 c2, .slice q k kk, .int .i64 n, .int .i64 b] v fun e w' => e = .returned (.bool (decide (k = m))) ∧ Below v.heap.size v w' from by
        rcases ho with rfl | rfl
        · simpa using HW1.out v h.2.2.1.2 (RQ.out v h.2.2.2)
        · have hne : ¬ k = m := by omega
          have := HW2.out v h.2.2.1.2 (by rw [HTK.out]; exact (RQ.out v h.2.2.2).take k)
          simpa [hne] using this))
      have dm : decide (mm = m) = false := by simp; omega
      have dp1 : decide (0 < m) = true := by simp; omega
      have dp2 : decide ((0 : Int) < (m : Int)) = true := by simp; omega
      clear hmm1 hl6
      go_wp2_with fail
      clear x0 x1
      go_region_held3 (fun w' => w'.cell? ⟨W.heap.size, 0, none⟩ = some (.slice p1 m1 c1) ∧ w'.cell? ⟨W.heap.size, 1, none⟩ = some (.slice p2 m2 c2) ∧ Lt W w' p1 m1 c1 p2 m2 c2 ∧ Below v3.heap.size v3 w')
        (first
          | (exact ⟨LD.out.1.two.1, LD.out.1.two.2, LD.out, BD.out⟩)
          | (exact Ltb.keep L3.out o1 (by assumption))
          | assumption
          | fail)
        (first
          | (go_at_call 21; refine (HWX.out _ (by assumption) _ (by first | exact .inl rfl | exact .inr rfl)).mono ?_; rintro e w' ⟨rfl, o1⟩)
          | fail)
      have L7 := Lib.hid ((show w'.cell? ⟨W.heap.size, 0, none⟩ = some (.slice p1 m1 c1) ∧ w'.cell? ⟨W.heap.size, 1, none⟩ = some (.slice p2 m2 c2) ∧ Lt W w' p1 m1 c1 p2 m2 c2 ∧ Below v3.heap.size v3 w' from by assumption).2.2.1)
      clear o1
      go_wp2_with fail
      refine (HK.out _ L7.out.2).mono ?_
      rintro e v8 ⟨rfl, b8⟩
      have B8 := Lib.hid (tr L7.out.2 b8)
      clear b8
      go_wp2_with fail
      go_ret
      exact ⟨rfl, B8.out⟩
  · as_aux_lemma =>
    go_wp2_with fail
    refine (HC.out _ L3.out.2 _ _).mono ?_
    rintro e v4 ⟨ho, b4⟩
    obtain ⟨v, rfl, m', v', hv', hm', ks'⟩ := ho.1 ⟨by omega, by omega, HFI.out⟩
    cases hv'
    rw [notk_nobody HFI.out] at hm' ks'
    have hmm := HM.out.mono hm' (by omega) (by omega)
    have L4 := Lib.hid (L3.out.below b4)
    have B4 := Lib.hid b4
    obtain ⟨q', kk', rfl, rq'⟩ := ks_ru ks'
    have hwk' := ks_cap ks'
    have hwl' : (slots (ll.take m')).length = m' := by unfold slots; rw [List.length_map, List.length_take]; have := hm'.1; omega
    have hm2 : m' ≤ 200 := by have := hm'.1; have := HLN.out; omega
    rw [hwl'] at hwk' ⊢
    have RQ' := Lib.hid (fun (v : World) (hb : Below v4.heap.size v4 v) => rq'.below hb)
    have HWL' := Lib.hid hwl'
    have hmi : (m : Int) ≤ (m' : Int) := by omega
    have hmi2 : ¬ (m' : Int) < (m : Int) := by omega
    have hmk : m ≤ kk' := by omega
    have hmk' : (m : Int) ≤ (kk' : Int) := by omega
    clear ho b4 ks' rq' hm' hwl' x0 x1
    obtain ⟨x0, x1⟩ := L4.out.1.two
    have hst : slots (ll.take m) = (slots (ll.take m')).take m := by
      unfold slots; rw [← List.map_take, List.take_take, Nat.min_eq_left hmm]
    have R2 := Lib.hid ((RQ'.out v4 (Below.refl _ _)).take m)
    rw [← hst] at R2
    clear hst
    go_wp2_with fail
    refine (rsame_any HWL.out HWL.out (RQ.out _ B4.out) R2.out (by omega) (by omega)).mono ?_
    rintro e v5 ⟨⟨v, rfl, hv⟩, b5⟩
    obtain rfl : v = true := hv.2 (by trivial)
    have L5 := Lib.hid (L4.out.below b5)
    have B5 := Lib.hid (tr B4.out b5)
    clear hv b5 x0 x1 R2 RQ'
    obtain ⟨x0, x1⟩ := L5.out.1.two
    have HW1 := Lib.hid (fun (v : World) (hb : Below W.heap.size W v) h => (HW.out v hb (Costs.of_fin HFI.out) (slots (ll.take m)) q m kk HWL.out h (by omega)).mono fun e w' h => (wi_yes h HFI.out HM.out.1 (HM.out.fits k1 k2) : e = .returned (.bool true) ∧ Below v.heap.size v w'))
    have LD := Lib.hid (L5.out.below (Below.drew (Below.refl v5.heap.size v5)))
    have BD := Lib.hid (tr B5.out (Below.drew (Below.refl v5.heap.size v5)))
    by_cases hm0 : m = 0
    · subst hm0
      go_wp2_with fail
      refine wp_region_held_drew (S := fun w' => w'.cell? ⟨W.heap.size, 0, none⟩ = some (.slice p1 m1 c1) ∧ w'.cell? ⟨W.heap.size, 1, none⟩ = some (.slice p2 m2 c2) ∧ Lt W w' p1 m1 c1 p2 m2 c2) (by kernel_rfl) (Lt.conj LD.out) (fun hHeld => ?_)
      refine wpAnyH_take (i := 0) (v := ?_) rfl (by kernel_rfl) (by kernel_rfl) (by kernel_rfl) (fun _ _ _ h => h) (Or.inl ⟨by rfl, ?_⟩) hHeld ?_
      rotate_left
      · intro w hSw
        try dsimp only at hSw
        go_simp
        all_goals with_reducible rfl
      try simp only [Act.put, List.setIfInBounds_toArray, List.set_cons_zero, List.set_cons_succ, List.getElem_toArray, List.getElem_cons_zero, List.getElem_cons_succ]
      refine wpAnyH_take (i := 1) (v := ?_) rfl (by kernel_rfl) (by kernel_rfl) (by kernel_rfl) (fun _ _ _ h => h) (Or.inl ⟨by rfl, ?_⟩) hHeld ?_
      rotate_left
      · intro w hSw
        try dsimp only at hSw
        go_simp
        all_goals with_reducible rfl
      try simp only [Act.put, List.setIfInBounds_toArray, List.set_cons_zero, List.set_cons_succ, List.getElem_toArray, List.getElem_cons_zero, List.getElem_cons_succ]
      refine wpAnyH_take (i := 2) (v := ?_) rfl (by kernel_rfl) (by kernel_rfl) (by kernel_rfl) (fun _ _ _ h => h) (Or.inl ⟨by rfl, ?_⟩) hHeld ?_
      rotate_left
      · intro w hSw
        try dsimp only at hSw
        go_simp
        all_goals with_reducible rfl
      try simp only [Act.put, List.setIfInBounds_toArray, List.set_cons_zero, List.set_cons_succ, List.getElem_toArray, List.getElem_cons_zero, List.getElem_cons_succ]
      refine wpAnyH_take (i := 3) (v := ?_) rfl (by kernel_rfl) (by kernel_rfl) (by kernel_rfl) (fun _ _ _ h => h) (Or.inl ⟨by rfl, ?_⟩) hHeld ?_
      rotate_left
      · intro w hSw
        try dsimp only at hSw
        go_simp
        all_goals with_reducible rfl
      try simp only [Act.put, List.setIfInBounds_toArray, List.set_cons_zero, List.set_cons_succ, List.getElem_toArray, List.getElem_cons_zero, List.getElem_cons_succ]
      refine wpAnyH_ready (rs := [4]) (by kernel_rfl) (by simp) ?_
      refine AllReadyH.cons rfl (fun K hK => ?_) AllReadyH.nil
      go_simp
      refine (HW1.out _ LD.out.2 (RQ.out _ BD.out)).mono ?_
      rintro e v6 ⟨rfl, b6⟩
      have L6 := Lib.hid (LD.out.below b6)
      clear b6 x0 x1
      try simp only []
      refine hK.out _ _ (Lt.conj L6.out) (fun hHeld => ?_)
      clear hK K
      try simp only [Act.put, List.setIfInBounds_toArray, List.set_cons_zero, List.set_cons_succ, List.getElem_toArray, List.getElem_cons_zero, List.getElem_cons_succ]
      refine wpAnyH_take (i := 5) (v := ?_) rfl (by kernel_rfl) (by kernel_rfl) (by kernel_rfl) (fun _ _ _ h => h) (Or.inl ⟨by rfl, ?_⟩) hHeld ?_
      rotate_left
      · intro w hSw
        try dsimp only at hSw
        go_simp
        all_goals with_reducible rfl
      try simp only [Act.put, List.setIfInBounds_toArray, List.set_cons_zero, List.set_cons_succ, List.getElem_toArray, List.getElem_cons_zero, List.getElem_cons_succ]
      refine wpAnyH_take (i := 6) (v := ?_) rfl (by kernel_rfl) (by kernel_rfl) (by kernel_rfl) (fun _ _ _ h => h) (Or.inl ⟨by rfl, ?_⟩) hHeld ?_
      rotate_left
      · intro w hSw
        try dsimp only at hSw
        go_simp
        all_goals with_reducible rfl
      try simp only [Act.put, List.setIfInBounds_toArray, List.set_cons_zero, List.set_cons_succ, List.getElem_toArray, List.getElem_cons_zero, List.getElem_cons_succ]
      refine wpAnyH_take (i := 7) (v := ?_) rfl (by kernel_rfl) (by kernel_rfl) (by kernel_rfl) (fun _ _ _ h => h) (Or.inl ⟨by rfl, ?_⟩) hHeld ?_
      rotate_left
      · intro w hSw
        try dsimp only at hSw
        go_simp
        all_goals with_reducible rfl
      try simp only [Act.put, List.setIfInBounds_toArray, List.set_cons_zero, List.set_cons_succ, List.getElem_toArray, List.getElem_cons_zero, List.getElem_cons_succ]
      refine wpAnyH_take (i := 8) (v := ?_) rfl (by kernel_rfl) (by kernel_rfl) (by kernel_rfl) (fun _ _ _ h => h) (Or.inl ⟨by rfl, ?_⟩) hHeld ?_
      rotate_left
      · intro w hSw
        try dsimp only at hSw
        go_simp
        all_goals with_reducible rfl
      try simp only [Act.put, List.setIfInBounds_toArray, List.set_cons_zero, List.set_cons_succ, List.getElem_toArray, List.getElem_cons_zero, List.getElem_cons_succ]
      refine wpAnyH_take (i := 9) (v := ?_) rfl (by kernel_rfl) (by kernel_rfl) (by kernel_rfl) (fun _ _ _ h => h) (Or.inl ⟨by rfl, ?_⟩) hHeld ?_
      rotate_left
      · intro w hSw
        try dsimp only at hSw
        go_simp
        all_goals with_reducible rfl
      try simp only [Act.put, List.setIfInBounds_toArray, List.set_cons_zero, List.set_cons_succ, List.getElem_toArray, List.getElem_cons_zero, List.getElem_cons_succ]
      refine wpAnyH_take (i := 10) (v := ?_) rfl (by kernel_rfl) (by kernel_rfl) (by kernel_rfl) (fun _ _ _ h => h) (Or.inl ⟨by rfl, ?_⟩) hHeld ?_
      rotate_left
      · intro w hSw
        try dsimp only at hSw
        go_simp
        all_goals with_reducible rfl
      try simp only [Act.put, List.setIfInBounds_toArray, List.set_cons_zero, List.set_cons_succ, List.getElem_toArray, List.getElem_cons_zero, List.getElem_cons_succ]
      refine wpAnyH_take (i := 11) (v := undef) rfl (by kernel_rfl) (by kernel_rfl) (by kernel_rfl) (fun _ _ _ h => h) (Or.inr ⟨by rfl, rfl⟩) hHeld ?_
      try simp only [Act.put, List.setIfInBounds_toArray, List.set_cons_zero, List.set_cons_succ, List.getElem_toArray, List.getElem_cons_zero, List.getElem_cons_succ]
      refine wpAnyH_take (i := 12) (v := undef) rfl (by kernel_rfl) (by kernel_rfl) (by kernel_rfl) (fun _ _ _ h => h) (Or.inr ⟨by rfl, rfl⟩) hHeld ?_
      try simp only [Act.put, List.setIfInBounds_toArray, List.set_cons_zero, List.set_cons_succ, List.getElem_toArray, List.getElem_cons_zero, List.getElem_cons_succ]
      refine wpAnyH_take (i := 13) (v := undef) rfl (by kernel_rfl) (by kernel_rfl) (by kernel_rfl) (fun _ _ _ h => h) (Or.inr ⟨by rfl, rfl⟩) hHeld ?_
      try simp only [Act.put, List.setIfInBounds_toArray, List.set_cons_zero, List.set_cons_succ, List.getElem_toArray, List.getElem_cons_zero, List.getElem_cons_succ]
      refine wpAnyH_take (i := 14) (v := undef) rfl (by kernel_rfl) (by kernel_rfl) (by kernel_rfl) (fun _ _ _ h => h) (Or.inr ⟨by rfl, rfl⟩) hHeld ?_
      try simp only [Act.put, List.setIfInBounds_toArray, List.set_cons_zero, List.set_cons_succ, List.getElem_toArray, List.getElem_cons_zero, List.getElem_cons_succ]
      refine wpAnyH_take (i := 15) (v := undef) rfl (by kernel_rfl) (by kernel_rfl) (by kernel_rfl) (fun _ _ _ h => h) (Or.inr ⟨by rfl, rfl⟩) hHeld ?_
      try simp only [Act.put, List.setIfInBounds_toArray, List.set_cons_zero, List.set_cons_succ, List.getElem_toArray, List.getElem_cons_zero, List.getElem_cons_succ]
      refine wpAnyH_take (i := 16) (v := undef) rfl (by kernel_rfl) (by kernel_rfl) (by kernel_rfl) (fun _ _ _ h => h) (Or.inr ⟨by rfl, rfl⟩) hHeld ?_
      try simp only [Act.put, List.setIfInBounds_toArray, List.set_cons_zero, List.set_cons_succ, List.getElem_toArray, List.getElem_cons_zero, List.getElem_cons_succ]
      refine wpAnyH_take (i := 17) (v := undef) rfl (by kernel_rfl) (by kernel_rfl) (by kernel_rfl) (fun _ _ _ h => h) (Or.inr ⟨by rfl, rfl⟩) hHeld ?_
      try simp only [Act.put, List.setIfInBounds_toArray, List.set_cons_zero, List.set_cons_succ, List.getElem_toArray, List.getElem_cons_zero, List.getElem_cons_succ]
      refine wpAnyH_take (i := 18) (v := undef) rfl (by kernel_rfl) (by kernel_rfl) (by kernel_rfl) (fun _ _ _ h => h) (Or.inr ⟨by rfl, rfl⟩) hHeld ?_
      try simp only [Act.put, List.setIfInBounds_toArray, List.set_cons_zero, List.set_cons_succ, List.getElem_toArray, List.getElem_cons_zero, List.getElem_cons_succ]
      refine wpAnyH_ready (rs := [19]) (by kernel_rfl) (by simp) ?_
      refine AllReadyH.cons rfl (fun K hK => ?_) AllReadyH.nil
      go_simp
      refine hK.out _ _ hHeld (fun hHeld => ?_)
      clear hK K
      try simp only [Act.put, List.setIfInBounds_toArray, List.set_cons_zero, List.set_cons_succ, List.getElem_toArray, List.getElem_cons_zero, List.getElem_cons_succ]
      refine wpAnyH_take (i := 20) (v := ?_) rfl (by kernel_rfl) (by kernel_rfl) (by kernel_rfl) (fun _ _ _ h => h) (Or.inl ⟨by rfl, ?_⟩) hHeld ?_
      rotate_left
      · intro w hSw
        try dsimp only at hSw
        go_simp
        all_goals with_reducible rfl
      try simp only [Act.put, List.setIfInBounds_toArray, List.set_cons_zero, List.set_cons_succ, List.getElem_toArray, List.getElem_cons_zero, List.getElem_cons_succ]
      refine wpAnyH_take (i := 21) (v := ?_) rfl (by kernel_rfl) (by kernel_rfl) (by kernel_rfl) (fun _ _ _ h => h) (Or.inl ⟨by rfl, ?_⟩) hHeld ?_
      rotate_left
      · intro w hSw
        try dsimp only at hSw
        go_simp
        all_goals with_reducible rfl
      try simp only [Act.put, List.setIfInBounds_toArray, List.set_cons_zero, List.set_cons_succ, List.getElem_toArray, List.getElem_cons_zero, List.getElem_cons_succ]
      refine wpAnyH_done (by kernel_rfl) ?_ _
      go_wp2_with fail
      refine (HK.out _ L6.out.2).mono ?_
      rintro e v7 ⟨rfl, b7⟩
      have B7 := Lib.hid (tr L6.out.2 b7)
      clear b7
      go_wp2_with fail
      go_ret
      exact ⟨rfl, B7.out⟩
    · have hm1 : (0 : Int) < (m : Int) := by omega
      obtain ⟨mm, hmm1⟩ : ∃ mm, m = mm + 1 := ⟨m - 1, by omega⟩
      have HMM := Lib.hid (show ((m : Int) - 1) = (mm : Int) from by omega)
      have wm : IntKind.i64.wrap ((m : Int) - 1) = (mm : Int) := by rw [IntWalk.i64_in ((m : Int) - 1) (by omega)]; omega
      have hmk2 : (mm : Int) ≤ (kk : Int) := by omega
      have hm02 : (0 : Int) ≤ (mm : Int) := by omega
      have HTK := Lib.hid (show slots (ll.take mm) = (slots (ll.take m)).take mm from by unfold slots; rw [← List.map_take, List.take_take, Nat.min_eq_left (by omega)])
      have hl6 : (slots (ll.take mm)).length = mm := by rw [HTK.out, List.length_take, HWL.out]; omega
      have HW2 := Lib.hid (fun (v : World) (hb : Below W.heap.size W v) h => (HW.out v hb (Costs.of_fin HFI.out) (slots (ll.take mm)) q mm kk hl6 h (by omega)).mono fun e w' h => (wi_no h HFI.out (by have := HM.out.1; omega) (HM.out.2.1 mm (by omega)) : e = .returned (.bool false) ∧ Below v.heap.size v w'))
      have HWX := Lib.hid (fun (v : World) (h : v.cell? ⟨W.heap.size, 0, none⟩ = some (.slice p1 m1 c1) ∧ v.cell? ⟨W.heap.size, 1, none⟩ = some (.slice p2 m2 c2) ∧ Lt W v p1 m1 c1 p2 m2 c2 ∧ Below v3.heap.size v3 v) (k : Nat) (ho : k = m ∨ k = mm) => (show Calls Try.prog 21 #[ents p1 m1 c1 p2 m2 c2, .slice q k kk, .int .i64 n, .int .i64 b] v fun e w' => e = .returned (.bool (decide (k = m))) ∧ Below v.heap.size v w' from by
        rcases ho with rfl | rfl
        · simpa using HW1.out v h.2.2.1.2 (RQ.out v h.2.2.2)
        · have hne : ¬ k = m := by omega
          have := HW2.out v h.2.2.1.2 (by rw [HTK.out]; exact (RQ.out v h.2.2.2).take k)
          simpa [hne] using this))
      have dm : decide (mm = m) = false := by simp; omega
      have dp1 : decide (0 < m) = true := by simp; omega
      have dp2 : decide ((0 : Int) < (m : Int)) = true := by simp; omega
      clear hmm1 hl6
      go_wp2_with fail
      clear x0 x1
      go_region_held3 (fun w' => w'.cell? ⟨W.heap.size, 0, none⟩ = some (.slice p1 m1 c1) ∧ w'.cell? ⟨W.heap.size, 1, none⟩ = some (.slice p2 m2 c2) ∧ Lt W w' p1 m1 c1 p2 m2 c2 ∧ Below v3.heap.size v3 w')
        (first
          | (exact ⟨LD.out.1.two.1, LD.out.1.two.2, LD.out, BD.out⟩)
          | (exact Ltb.keep L3.out o1 (by assumption))
          | assumption
          | fail)
        (first
          | (go_at_call 21; refine (HWX.out _ (by assumption) _ (by first | exact .inl rfl | exact .inr rfl)).mono ?_; rintro e w' ⟨rfl, o1⟩)
          | fail)
      have L7 := Lib.hid ((show w'.cell? ⟨W.heap.size, 0, none⟩ = some (.slice p1 m1 c1) ∧ w'.cell? ⟨W.heap.size, 1, none⟩ = some (.slice p2 m2 c2) ∧ Lt W w' p1 m1 c1 p2 m2 c2 ∧ Below v3.heap.size v3 w' from by assumption).2.2.1)
      clear o1
      go_wp2_with fail
      refine (HK.out _ L7.out.2).mono ?_
      rintro e v8 ⟨rfl, b8⟩
      have B8 := Lib.hid (tr L7.out.2 b8)
      clear b8
      go_wp2_with fail
      go_ret
      exact ⟨rfl, B8.out⟩
  · as_aux_lemma =>
    go_wp2_with fail
    refine (HC.out _ L3.out.2 _ _).mono ?_
    rintro e v4 ⟨ho, b4⟩
    obtain ⟨v, rfl, m', v', hv', hm', ks'⟩ := ho.1 ⟨by omega, by omega, HFI.out⟩
    cases hv'
    rw [notk_nobody HFI.out] at hm' ks'
    have hmm := HM.out.mono hm' (by omega) (by omega)
    have L4 := Lib.hid (L3.out.below b4)
    have B4 := Lib.hid b4
    obtain ⟨q', kk', rfl, rq'⟩ := ks_ru ks'
    have hwk' := ks_cap ks'
    have hwl' : (slots (ll.take m')).length = m' := by unfold slots; rw [List.length_map, List.length_take]; have := hm'.1; omega
    have hm2 : m' ≤ 200 := by have := hm'.1; have := HLN.out; omega
    rw [hwl'] at hwk' ⊢
    have RQ' := Lib.hid (fun (v : World) (hb : Below v4.heap.size v4 v) => rq'.below hb)
    have HWL' := Lib.hid hwl'
    have hmi : (m : Int) ≤ (m' : Int) := by omega
    have hmi2 : ¬ (m' : Int) < (m : Int) := by omega
    have hmk : m ≤ kk' := by omega
    have hmk' : (m : Int) ≤ (kk' : Int) := by omega
    clear ho b4 ks' rq' hm' hwl' x0 x1
    obtain ⟨x0, x1⟩ := L4.out.1.two
    have hst : slots (ll.take m) = (slots (ll.take m')).take m := by
      unfold slots; rw [← List.map_take, List.take_take, Nat.min_eq_left hmm]
    have R2 := Lib.hid ((RQ'.out v4 (Below.refl _ _)).take m)
    rw [← hst] at R2
    clear hst
    go_wp2_with fail
    refine (rsame_any HWL.out HWL.out (RQ.out _ B4.out) R2.out (by omega) (by omega)).mono ?_
    rintro e v5 ⟨⟨v, rfl, hv⟩, b5⟩
    obtain rfl : v = true := hv.2 (by trivial)
    have L5 := Lib.hid (L4.out.below b5)
    have B5 := Lib.hid (tr B4.out b5)
    clear hv b5 x0 x1 R2 RQ'
    obtain ⟨x0, x1⟩ := L5.out.1.two
    have HW1 := Lib.hid (fun (v : World) (hb : Below W.heap.size W v) h => (HW.out v hb (Costs.of_fin HFI.out) (slots (ll.take m)) q m kk HWL.out h (by omega)).mono fun e w' h => (wi_yes h HFI.out HM.out.1 (HM.out.fits k1 k2) : e = .returned (.bool true) ∧ Below v.heap.size v w'))
    have LD := Lib.hid (L5.out.below (Below.drew (Below.refl v5.heap.size v5)))
    have BD := Lib.hid (tr B5.out (Below.drew (Below.refl v5.heap.size v5)))
    by_cases hm0 : m = 0
    · subst hm0
      go_wp2_with fail
      refine wp_region_held_drew (S := fun w' => w'.cell? ⟨W.heap.size, 0, none⟩ = some (.slice p1 m1 c1) ∧ w'.cell? ⟨W.heap.size, 1, none⟩ = some (.slice p2 m2 c2) ∧ Lt W w' p1 m1 c1 p2 m2 c2) (by kernel_rfl) (Lt.conj LD.out) (fun hHeld => ?_)
      refine wpAnyH_take (i := 0) (v := ?_) rfl (by kernel_rfl) (by kernel_rfl) (by kernel_rfl) (fun _ _ _ h => h) (Or.inl ⟨by rfl, ?_⟩) hHeld ?_
      rotate_left
      · intro w hSw
        try dsimp only at hSw
        go_simp
        all_goals with_reducible rfl
      try simp only [Act.put, List.setIfInBounds_toArray, List.set_cons_zero, List.set_cons_succ, List.getElem_toArray, List.getElem_cons_zero, List.getElem_cons_succ]
      refine wpAnyH_take (i := 1) (v := ?_) rfl (by kernel_rfl) (by kernel_rfl) (by kernel_rfl) (fun _ _ _ h => h) (Or.inl ⟨by rfl, ?_⟩) hHeld ?_
      rotate_left
      · intro w hSw
        try dsimp only at hSw
        go_simp
        all_goals with_reducible rfl
      try simp only [Act.put, List.setIfInBounds_toArray, List.set_cons_zero, List.set_cons_succ, List.getElem_toArray, List.getElem_cons_zero, List.getElem_cons_succ]
      refine wpAnyH_take (i := 2) (v := ?_) rfl (by kernel_rfl) (by kernel_rfl) (by kernel_rfl) (fun _ _ _ h => h) (Or.inl ⟨by rfl, ?_⟩) hHeld ?_
      rotate_left
      · intro w hSw
        try dsimp only at hSw
        go_simp
        all_goals with_reducible rfl
      try simp only [Act.put, List.setIfInBounds_toArray, List.set_cons_zero, List.set_cons_succ, List.getElem_toArray, List.getElem_cons_zero, List.getElem_cons_succ]
      refine wpAnyH_take (i := 3) (v := ?_) rfl (by kernel_rfl) (by kernel_rfl) (by kernel_rfl) (fun _ _ _ h => h) (Or.inl ⟨by rfl, ?_⟩) hHeld ?_
      rotate_left
      · intro w hSw
        try dsimp only at hSw
        go_simp
        all_goals with_reducible rfl
      try simp only [Act.put, List.setIfInBounds_toArray, List.set_cons_zero, List.set_cons_succ, List.getElem_toArray, List.getElem_cons_zero, List.getElem_cons_succ]
      refine wpAnyH_ready (rs := [4]) (by kernel_rfl) (by simp) ?_
      refine AllReadyH.cons rfl (fun K hK => ?_) AllReadyH.nil
      go_simp
      refine (HW1.out _ LD.out.2 (RQ.out _ BD.out)).mono ?_
      rintro e v6 ⟨rfl, b6⟩
      have L6 := Lib.hid (LD.out.below b6)
      clear b6 x0 x1
      try simp only []
      refine hK.out _ _ (Lt.conj L6.out) (fun hHeld => ?_)
      clear hK K
      try simp only [Act.put, List.setIfInBounds_toArray, List.set_cons_zero, List.set_cons_succ, List.getElem_toArray, List.getElem_cons_zero, List.getElem_cons_succ]
      refine wpAnyH_take (i := 5) (v := ?_) rfl (by kernel_rfl) (by kernel_rfl) (by kernel_rfl) (fun _ _ _ h => h) (Or.inl ⟨by rfl, ?_⟩) hHeld ?_
      rotate_left
      · intro w hSw
        try dsimp only at hSw
        go_simp
        all_goals with_reducible rfl
      try simp only [Act.put, List.setIfInBounds_toArray, List.set_cons_zero, List.set_cons_succ, List.getElem_toArray, List.getElem_cons_zero, List.getElem_cons_succ]
      refine wpAnyH_take (i := 6) (v := ?_) rfl (by kernel_rfl) (by kernel_rfl) (by kernel_rfl) (fun _ _ _ h => h) (Or.inl ⟨by rfl, ?_⟩) hHeld ?_
      rotate_left
      · intro w hSw
        try dsimp only at hSw
        go_simp
        all_goals with_reducible rfl
      try simp only [Act.put, List.setIfInBounds_toArray, List.set_cons_zero, List.set_cons_succ, List.getElem_toArray, List.getElem_cons_zero, List.getElem_cons_succ]
      refine wpAnyH_take (i := 7) (v := ?_) rfl (by kernel_rfl) (by kernel_rfl) (by kernel_rfl) (fun _ _ _ h => h) (Or.inl ⟨by rfl, ?_⟩) hHeld ?_
      rotate_left
      · intro w hSw
        try dsimp only at hSw
        go_simp
        all_goals with_reducible rfl
      try simp only [Act.put, List.setIfInBounds_toArray, List.set_cons_zero, List.set_cons_succ, List.getElem_toArray, List.getElem_cons_zero, List.getElem_cons_succ]
      refine wpAnyH_take (i := 8) (v := ?_) rfl (by kernel_rfl) (by kernel_rfl) (by kernel_rfl) (fun _ _ _ h => h) (Or.inl ⟨by rfl, ?_⟩) hHeld ?_
      rotate_left
      · intro w hSw
        try dsimp only at hSw
        go_simp
        all_goals with_reducible rfl
      try simp only [Act.put, List.setIfInBounds_toArray, List.set_cons_zero, List.set_cons_succ, List.getElem_toArray, List.getElem_cons_zero, List.getElem_cons_succ]
      refine wpAnyH_take (i := 9) (v := ?_) rfl (by kernel_rfl) (by kernel_rfl) (by kernel_rfl) (fun _ _ _ h => h) (Or.inl ⟨by rfl, ?_⟩) hHeld ?_
      rotate_left
      · intro w hSw
        try dsimp only at hSw
        go_simp
        all_goals with_reducible rfl
      try simp only [Act.put, List.setIfInBounds_toArray, List.set_cons_zero, List.set_cons_succ, List.getElem_toArray, List.getElem_cons_zero, List.getElem_cons_succ]
      refine wpAnyH_take (i := 10) (v := ?_) rfl (by kernel_rfl) (by kernel_rfl) (by kernel_rfl) (fun _ _ _ h => h) (Or.inl ⟨by rfl, ?_⟩) hHeld ?_
      rotate_left
      · intro w hSw
        try dsimp only at hSw
        go_simp
        all_goals with_reducible rfl
      try simp only [Act.put, List.setIfInBounds_toArray, List.set_cons_zero, List.set_cons_succ, List.getElem_toArray, List.getElem_cons_zero, List.getElem_cons_succ]
      refine wpAnyH_take (i := 11) (v := undef) rfl (by kernel_rfl) (by kernel_rfl) (by kernel_rfl) (fun _ _ _ h => h) (Or.inr ⟨by rfl, rfl⟩) hHeld ?_
      try simp only [Act.put, List.setIfInBounds_toArray, List.set_cons_zero, List.set_cons_succ, List.getElem_toArray, List.getElem_cons_zero, List.getElem_cons_succ]
      refine wpAnyH_take (i := 12) (v := undef) rfl (by kernel_rfl) (by kernel_rfl) (by kernel_rfl) (fun _ _ _ h => h) (Or.inr ⟨by rfl, rfl⟩) hHeld ?_
      try simp only [Act.put, List.setIfInBounds_toArray, List.set_cons_zero, List.set_cons_succ, List.getElem_toArray, List.getElem_cons_zero, List.getElem_cons_succ]
      refine wpAnyH_take (i := 13) (v := undef) rfl (by kernel_rfl) (by kernel_rfl) (by kernel_rfl) (fun _ _ _ h => h) (Or.inr ⟨by rfl, rfl⟩) hHeld ?_
      try simp only [Act.put, List.setIfInBounds_toArray, List.set_cons_zero, List.set_cons_succ, List.getElem_toArray, List.getElem_cons_zero, List.getElem_cons_succ]
      refine wpAnyH_take (i := 14) (v := undef) rfl (by kernel_rfl) (by kernel_rfl) (by kernel_rfl) (fun _ _ _ h => h) (Or.inr ⟨by rfl, rfl⟩) hHeld ?_
      try simp only [Act.put, List.setIfInBounds_toArray, List.set_cons_zero, List.set_cons_succ, List.getElem_toArray, List.getElem_cons_zero, List.getElem_cons_succ]
      refine wpAnyH_take (i := 15) (v := undef) rfl (by kernel_rfl) (by kernel_rfl) (by kernel_rfl) (fun _ _ _ h => h) (Or.inr ⟨by rfl, rfl⟩) hHeld ?_
      try simp only [Act.put, List.setIfInBounds_toArray, List.set_cons_zero, List.set_cons_succ, List.getElem_toArray, List.getElem_cons_zero, List.getElem_cons_succ]
      refine wpAnyH_take (i := 16) (v := undef) rfl (by kernel_rfl) (by kernel_rfl) (by kernel_rfl) (fun _ _ _ h => h) (Or.inr ⟨by rfl, rfl⟩) hHeld ?_
      try simp only [Act.put, List.setIfInBounds_toArray, List.set_cons_zero, List.set_cons_succ, List.getElem_toArray, List.getElem_cons_zero, List.getElem_cons_succ]
      refine wpAnyH_take (i := 17) (v := undef) rfl (by kernel_rfl) (by kernel_rfl) (by kernel_rfl) (fun _ _ _ h => h) (Or.inr ⟨by rfl, rfl⟩) hHeld ?_
      try simp only [Act.put, List.setIfInBounds_toArray, List.set_cons_zero, List.set_cons_succ, List.getElem_toArray, List.getElem_cons_zero, List.getElem_cons_succ]
      refine wpAnyH_take (i := 18) (v := undef) rfl (by kernel_rfl) (by kernel_rfl) (by kernel_rfl) (fun _ _ _ h => h) (Or.inr ⟨by rfl, rfl⟩) hHeld ?_
      try simp only [Act.put, List.setIfInBounds_toArray, List.set_cons_zero, List.set_cons_succ, List.getElem_toArray, List.getElem_cons_zero, List.getElem_cons_succ]
      refine wpAnyH_ready (rs := [19]) (by kernel_rfl) (by simp) ?_
      refine AllReadyH.cons rfl (fun K hK => ?_) AllReadyH.nil
      go_simp
      refine hK.out _ _ hHeld (fun hHeld => ?_)
      clear hK K
      try simp only [Act.put, List.setIfInBounds_toArray, List.set_cons_zero, List.set_cons_succ, List.getElem_toArray, List.getElem_cons_zero, List.getElem_cons_succ]
      refine wpAnyH_take (i := 20) (v := ?_) rfl (by kernel_rfl) (by kernel_rfl) (by kernel_rfl) (fun _ _ _ h => h) (Or.inl ⟨by rfl, ?_⟩) hHeld ?_
      rotate_left
      · intro w hSw
        try dsimp only at hSw
        go_simp
        all_goals with_reducible rfl
      try simp only [Act.put, List.setIfInBounds_toArray, List.set_cons_zero, List.set_cons_succ, List.getElem_toArray, List.getElem_cons_zero, List.getElem_cons_succ]
      refine wpAnyH_take (i := 21) (v := ?_) rfl (by kernel_rfl) (by kernel_rfl) (by kernel_rfl) (fun _ _ _ h => h) (Or.inl ⟨by rfl, ?_⟩) hHeld ?_
      rotate_left
      · intro w hSw
        try dsimp only at hSw
        go_simp
        all_goals with_reducible rfl
      try simp only [Act.put, List.setIfInBounds_toArray, List.set_cons_zero, List.set_cons_succ, List.getElem_toArray, List.getElem_cons_zero, List.getElem_cons_succ]
      refine wpAnyH_done (by kernel_rfl) ?_ _
      go_wp2_with fail
      refine (HK.out _ L6.out.2).mono ?_
      rintro e v7 ⟨rfl, b7⟩
      have B7 := Lib.hid (tr L6.out.2 b7)
      clear b7
      go_wp2_with fail
      go_ret
      exact ⟨rfl, B7.out⟩
    · have hm1 : (0 : Int) < (m : Int) := by omega
      obtain ⟨mm, hmm1⟩ : ∃ mm, m = mm + 1 := ⟨m - 1, by omega⟩
      have HMM := Lib.hid (show ((m : Int) - 1) = (mm : Int) from by omega)
      have wm : IntKind.i64.wrap ((m : Int) - 1) = (mm : Int) := by rw [IntWalk.i64_in ((m : Int) - 1) (by omega)]; omega
      have hmk2 : (mm : Int) ≤ (kk : Int) := by omega
      have hm02 : (0 : Int) ≤ (mm : Int) := by omega
      have HTK := Lib.hid (show slots (ll.take mm) = (slots (ll.take m)).take mm from by unfold slots; rw [← List.map_take, List.take_take, Nat.min_eq_left (by omega)])
      have hl6 : (slots (ll.take mm)).length = mm := by rw [HTK.out, List.length_take, HWL.out]; omega
      have HW2 := Lib.hid (fun (v : World) (hb : Below W.heap.size W v) h => (HW.out v hb (Costs.of_fin HFI.out) (slots (ll.take mm)) q mm kk hl6 h (by omega)).mono fun e w' h => (wi_no h HFI.out (by have := HM.out.1; omega) (HM.out.2.1 mm (by omega)) : e = .returned (.bool false) ∧ Below v.heap.size v w'))
      have HWX := Lib.hid (fun (v : World) (h : v.cell? ⟨W.heap.size, 0, none⟩ = some (.slice p1 m1 c1) ∧ v.cell? ⟨W.heap.size, 1, none⟩ = some (.slice p2 m2 c2) ∧ Lt W v p1 m1 c1 p2 m2 c2 ∧ Below v3.heap.size v3 v) (k : Nat) (ho : k = m ∨ k = mm) => (show Calls Try.prog 21 #[ents p1 m1 c1 p2 m2 c2, .slice q k kk, .int .i64 n, .int .i64 b] v fun e w' => e = .returned (.bool (decide (k = m))) ∧ Below v.heap.size v w' from by
        rcases ho with rfl | rfl
        · simpa using HW1.out v h.2.2.1.2 (RQ.out v h.2.2.2)
        · have hne : ¬ k = m := by omega
          have := HW2.out v h.2.2.1.2 (by rw [HTK.out]; exact (RQ.out v h.2.2.2).take k)
          simpa [hne] using this))
      have dm : decide (mm = m) = false := by simp; omega
      have dp1 : decide (0 < m) = true := by simp; omega
      have dp2 : decide ((0 : Int) < (m : Int)) = true := by simp; omega
      clear hmm1 hl6
      go_wp2_with fail
      clear x0 x1
      go_region_held3 (fun w' => w'.cell? ⟨W.heap.size, 0, none⟩ = some (.slice p1 m1 c1) ∧ w'.cell? ⟨W.heap.size, 1, none⟩ = some (.slice p2 m2 c2) ∧ Lt W w' p1 m1 c1 p2 m2 c2 ∧ Below v3.heap.size v3 w')
        (first
          | (exact ⟨LD.out.1.two.1, LD.out.1.two.2, LD.out, BD.out⟩)
          | (exact Ltb.keep L3.out o1 (by assumption))
          | assumption
          | fail)
        (first
          | (go_at_call 21; refine (HWX.out _ (by assumption) _ (by first | exact .inl rfl | exact .inr rfl)).mono ?_; rintro e w' ⟨rfl, o1⟩)
          | fail)
      have L7 := Lib.hid ((show w'.cell? ⟨W.heap.size, 0, none⟩ = some (.slice p1 m1 c1) ∧ w'.cell? ⟨W.heap.size, 1, none⟩ = some (.slice p2 m2 c2) ∧ Lt W w' p1 m1 c1 p2 m2 c2 ∧ Below v3.heap.size v3 w' from by assumption).2.2.1)
      clear o1
      go_wp2_with fail
      refine (HK.out _ L7.out.2).mono ?_
      rintro e v8 ⟨rfl, b8⟩
      have B8 := Lib.hid (tr L7.out.2 b8)
      clear b8
      go_wp2_with fail
      go_ret
      exact ⟨rfl, B8.out⟩
end Go.Proofs.Ytlokilkhlhhjgaa.Vic
