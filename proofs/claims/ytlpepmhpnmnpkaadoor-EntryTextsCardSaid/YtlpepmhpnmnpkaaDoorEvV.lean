/-
  A checked evaluator, part V: a region whose order is open, as a whole; a function as a whole.
-/
import Derived.Test.YtlpepmhpnmnpkaaDoorEvU
set_option linter.unusedVariables false
set_option linter.unusedSimpArgs false
set_option linter.unusedSectionVars false
namespace Go.Proofs.YtlpepmhpnmnpkaaDoor.Ev
open Go Go.RowKit
variable [Tab]

def aIdx (ops : List Oper) : List Nat := (List.range ops.length).filter fun j => (ops[j]?).any (isA ·.op)
def reserveE (nx0 : Nat) : List Nat → Tr Blk → Option (Tr Blk)
  | [], H => some H
  | j :: l, H => match H.get (key (nx0 + j)) with
    | none => reserveE nx0 l (H.set (key (nx0 + j)) .dead)
    | some _ => none
theorem reserveE_spec {nx0 : Nat} : ∀ {l : List Nat} {H H' : Tr Blk}, reserveE nx0 l H = some H' →
    (∀ j ∈ l, H.get (key (nx0 + j)) = none) ∧ (l.map fun j => key (nx0 + j)).Nodup ∧ ∀ k, H'.get k = if k ∈ l.map (fun j => key (nx0 + j)) then some .dead else H.get k
  | [], H, H', h => by simp [reserveE] at h; subst h; simp
  | j :: l, H, H', h => by
    simp only [reserveE] at h
    split at h
    · rename_i hn
      obtain ⟨h1, h2, h3⟩ := reserveE_spec h
      have hne : ∀ i ∈ l, key (nx0 + i) ≠ key (nx0 + j) := fun i hi e => by
        have := h1 i hi
        rw [e, Tr.get_set_same] at this; cases this
      refine ⟨fun i hi => ?_, ?_, fun k => ?_⟩
      · rcases List.mem_cons.1 hi with rfl | hi
        · exact hn
        · have := h1 i hi
          rwa [Tr.get_set_other _ _ (hne i hi)] at this
      · rw [List.map_cons, List.nodup_cons]
        refine ⟨fun hm => ?_, h2⟩
        obtain ⟨i, hi, e⟩ := List.mem_map.1 hm
        exact hne i hi e
      · rw [h3 k, Tr.get_set]
        by_cases hk : k = key (nx0 + j)
        · subst hk
          simp
        · by_cases hm : k ∈ l.map (fun j => key (nx0 + j))
          · rw [if_pos hm, if_pos (by simp only [List.map_cons, List.mem_cons]; exact .inr hm)]
          · rw [if_neg hm, if_neg hk, if_neg (by simp only [List.map_cons, List.mem_cons]; exact fun h => h.elim hk hm)]
    · cases h
theorem addL_dead (Ds : List Key) (H : HP) (k : Key) : addL (Ds.map fun k => (k, Blk.dead)) H k = if k ∈ Ds then some .dead else H k := by
  induction Ds with
  | nil => simp [addL]
  | cons d Ds ih =>
    rw [List.map_cons, addL_cons]
    by_cases e : k = d
    · subst e; rw [upd_same]; simp
    · rw [upd_other _ _ e, ih]
      simp [e]
def finE (V : Tr (Nat × Value)) : List Oper → Nat → Tr (Nat × Value) → Tr (Nat × Value)
  | [], _, tm => tm
  | o :: l, i, tm => finE V l (i + 1) (match o.dst with | some d => tm.set (key d) (d, valOf V i) | none => tm)
theorem finE_spec {V : Tr (Nat × Value)} (l : List Oper) : ∀ {i : Nat} {tm : Tr (Nat × Value)}, (∀ k t x, tm.get k = some (t, x) → k = key t) → ∀ k t x, (finE V l i tm).get k = some (t, x) →
    k = key t ∧ ((∃ j o, l[j]? = some o ∧ o.dst = some t ∧ x = valOf V (i + j)) ∨ (tm.get k = some (t, x) ∧ ∀ o ∈ l, o.dst ≠ some t)) := by
  induction l with
  | nil => intro i tm htm k t x h; exact ⟨htm k t x h, .inr ⟨h, by simp⟩⟩
  | cons o l ih =>
    intro i tm htm k t x h
    simp only [finE] at h
    have htm' : ∀ k t x, (match o.dst with | some d => tm.set (key d) (d, valOf V i) | none => tm).get k = some (t, x) → k = key t := by
      intro k t x hk
      split at hk
      · rw [Tr.get_set] at hk
        split at hk
        · rename_i e; cases hk; exact e
        · exact htm k t x hk
      · exact htm k t x hk
    obtain ⟨h1, h2⟩ := ih htm' k t x h
    refine ⟨h1, ?_⟩
    rcases h2 with ⟨j, o', hj, hd, hx⟩ | ⟨h2, h3⟩
    · exact .inl ⟨j + 1, o', by simpa using hj, hd, by rw [hx]; congr 1; omega⟩
    · split at h2
      · rename_i d hd
        rw [Tr.get_set] at h2
        split at h2
        · cases h2
          exact .inl ⟨0, o, rfl, hd, rfl⟩
        · rename_i hne
          refine .inr ⟨h2, fun o' ho' e => ?_⟩
          rcases List.mem_cons.1 ho' with rfl | ho'
          · rw [hd] at e; cases e
            exact hne h1
          · exact h3 o' ho' e
      · rename_i hd
        refine .inr ⟨h2, fun o' ho' e => ?_⟩
        rcases List.mem_cons.1 ho' with rfl | ho'
        · rw [hd] at e; cases e
        · exact h3 o' ho' e
def infeas (ancs : List Nat) (csR : List Nat) (j q : Nat) : Bool :=
  ((csR.take q).any fun c => (ancs.getD c 0).testBit j) || ((csR.drop q).any fun c => (ancs.getD j 0).testBit c)
/-- the heap that operation j reads when q of the others have come up -/
def readH (As : List (Nat × Key × Blk)) (ancs cs : List Nat) (j q : Nat) (H : Tr Blk) : Tr Blk :=
  match As with
  | [] => H
  | _ => mergeE (As.filter fun x => (ancs.getD j 0).testBit x.1 && !((List.range q).any fun s => (ancs.getD (cs.getD s 0) 0).testBit x.1)) H
theorem readH_get (As : List (Nat × Key × Blk)) (ancs cs : List Nat) (j q : Nat) (H : Tr Blk) : (readH As ancs cs j q H).get = addL ((As.filter fun x => (ancs.getD j 0).testBit x.1 && !((List.range q).any fun s => (ancs.getD (cs.getD s 0) 0).testBit x.1)).map (·.2)) H.get := by
  unfold readH
  split
  · rfl
  · rw [mergeE_get]
/-- the loads yield the same wherever they may come up -/
def readsE (P : Program) (ops : List Oper) (tm : Tr (Nat × Value)) (ancs : List Nat) (d : DS) : Bool :=
  (List.range ops.length).all fun j => match ops[j]? with
    | none => true
    | some o => match isRead o.op && !isNFP P o.op with
      | false => true
      | true => match wantR ops (roE ops tm ancs d.V j) o with
        | none => false
        | some false => veq (valOf d.V j) undef
        | some true => (List.range (d.cs.length + 1)).all fun q => infeas ancs d.cs.reverse j q || match evOp P o (roE ops tm ancs d.V j) (readH d.As ancs d.cs.reverse j q (d.hs.reverse.getD q .leaf)) 0 with
          | some (.pure v) => veq v (valOf d.V j)
          | _ => false
def drawE (P : Program) (call : CallE) : DrawE := fun nt ops st =>
  match statE P ops with
  | none => none
  | some (pi, ancs) => match ops.all fun o => match o.dst with | some d => Nat.blt d nt | none => true with
    | false => none
    | true => match reserveE st.nx (aIdx ops) st.H with
      | none => none
      | some H => match runD P call ops st.tm ancs st.nx pi ⟨.leaf, [], [H], [], H, 0, 0, st.nx + ops.length⟩ with
        | none => none
        | some d => match (List.range ops.length).all fun j => d.done.testBit j, readsE P ops st.tm ancs d with
          | true, true => forceN d.nx fun n => some ⟨finE d.V ops 0 st.tm, mergeE (d.As.filter fun x => !d.mg.testBit x.1) d.H, n, st.df⟩
          | _, _ => none
section
variable {P : Program} {call : CallE} {σ : Nat → Value} [TabOK P σ]
theorem infeas_of {ancs : List Nat} {d : DS} {j q : Nat} (hf : (mkRD ancs d).feas j q) (hq : q ≤ d.cs.length) : infeas ancs d.cs.reverse j q = false := by
  unfold infeas
  rw [Bool.or_eq_false_iff, List.any_eq_false, List.any_eq_false]
  refine ⟨fun c hc => ?_, fun c hc => ?_⟩
  · obtain ⟨r, hr, rfl⟩ := List.mem_iff_getElem.1 hc
    have hr' : r < q := by simp at hr; omega
    have := hf.1 r hr'
    simp only [mkRD] at this
    have hlt : r < d.cs.reverse.length := by simp; omega
    rw [List.getD_eq_getElem?_getD (l := d.cs.reverse), List.getElem?_eq_getElem hlt] at this
    simp only [List.getElem_take]
    simpa using this
  · obtain ⟨r, hr, rfl⟩ := List.mem_iff_getElem.1 hc
    have hr' : q + r < d.cs.length := by simp at hr; omega
    have := hf.2 (q + r) (by omega) hr'
    simp only [mkRD] at this
    have hlt : q + r < d.cs.reverse.length := by simp; omega
    rw [List.getD_eq_getElem?_getD (l := d.cs.reverse), List.getElem?_eq_getElem hlt] at this
    simp only [List.getElem_drop]
    simpa using this
theorem drawE_ok (hm : P.follows .mixedOrders = true) (hcall : CallOK P σ call) : DrawOK P σ (drawE P call) := by
  intro nt id opa st st' h M a w hst rd Q hQ
  unfold drawE at h
  simp only [forceN_eq] at h
  split at h
  · cases h
  · rename_i pi ancs hstat
    split at h
    · cases h
    · rename_i hlt
      split at h
      · cases h
      · rename_i H hres
        split at h
        · cases h
        · rename_i d hrun
          split at h
          · rename_i hall hreads
            cases h
            obtain ⟨s1, s2, s3, s4⟩ := statE_spec hstat
            obtain ⟨r1, r2, r3⟩ := reserveE_spec hres
            have hlen : opa.toList.length = opa.size := by simp
            have hget : ∀ j : Nat, opa.toList[j]? = opa[j]? := fun j => by simp
            have hi0 : DInv opa.toList ancs st.nx ⟨.leaf, [], [H], [], H, 0, 0, st.nx + opa.toList.length⟩ :=
              ⟨rfl, rfl, by simp, by simp, by simp, .nil, .nil, fun i v e => by simp [evO, opK, Tr.get_leaf] at e⟩
            obtain ⟨e1, e2, e3⟩ := runD_ok (opa := opa) rfl pi hi0 hrun
            have hdone : ∀ j, j < opa.size → d.done.testBit j = true := fun j hj => List.all_eq_true.1 hall j (List.mem_range.2 (by omega))
            have hgood : ∀ j o, opa[j]? = some o → DGood P call opa st.tm ancs d j o := fun j o ho => by
              have hj := (Array.getElem?_eq_some_iff.1 ho).1
              rcases e3 j (hdone j hj) with h1 | ⟨o', ho', h1⟩
              · simp at h1
              · rw [hget, ho] at ho'; cases ho'; exact h1
            have hkeyinj : ∀ x ∈ d.As, ∀ y ∈ d.As, x.2.1 = y.2.1 → x.1 = y.1 := by
              intro x hx y hy e
              obtain ⟨-, ⟨o1, ho1, ha1⟩, hk1, -⟩ := e2.asi x hx
              obtain ⟨-, ⟨o2, ho2, ha2⟩, hk2, -⟩ := e2.asi y hy
              rw [hk1, hk2] at e
              have m1 : x.1 ∈ aIdx opa.toList := List.mem_filter.2 ⟨List.mem_range.2 (List.getElem?_eq_some_iff.1 ho1).1, by simp only [ho1]; simpa using ha1⟩
              have m2 : y.1 ∈ aIdx opa.toList := List.mem_filter.2 ⟨List.mem_range.2 (List.getElem?_eq_some_iff.1 ho2).1, by simp only [ho2]; simpa using ha2⟩
              have key' : ∀ (L : List Nat), (L.map fun j => key (st.nx + j)).Nodup → ∀ a b, a ∈ L → b ∈ L → key (st.nx + a) = key (st.nx + b) → a = b := by
                intro L
                induction L with
                | nil => intro _ a b h; cases h
                | cons z L ih =>
                  intro hn a b h1 h2 e
                  rw [List.map_cons, List.nodup_cons] at hn
                  rcases List.mem_cons.1 h1 with rfl | h1' <;> rcases List.mem_cons.1 h2 with rfl | h2'
                  · rfl
                  · exact absurd (by rw [e]; exact List.mem_map_of_mem (f := fun j => key (st.nx + j)) h2') hn.1
                  · exact absurd (by rw [← e]; exact List.mem_map_of_mem (f := fun j => key (st.nx + j)) h1') hn.1
                  · exact ih hn.2 a b h1' h2' e
              exact key' _ r2 _ _ m1 m2 e
            have hids : ∀ x ∈ d.As, ∀ y ∈ d.As, x.1 = y.1 → x = y := by
              intro x hx y hy e
              have key' : ∀ (L : List (Nat × Key × Blk)), (L.Pairwise fun x y => x.1 ≠ y.1) → x ∈ L → y ∈ L → x = y := by
                intro L
                induction L with
                | nil => intro _ h; cases h
                | cons z L ih =>
                  intro hn h1 h2
                  rw [List.pairwise_cons] at hn
                  rcases List.mem_cons.1 h1 with rfl | h1' <;> rcases List.mem_cons.1 h2 with rfl | h2'
                  · rfl
                  · exact absurd e (hn.1 y h2')
                  · exact absurd e.symm (hn.1 x h1')
                  · exact ih hn.2 h1' h2'
              exact key' _ e2.ids hx hy
            have hDs : ∀ x ∈ d.As, x.2.1 ∈ (aIdx opa.toList).map fun j => key (st.nx + j) := by
              intro x hx
              obtain ⟨-, ⟨o1, ho1, ha1⟩, hk1, -⟩ := e2.asi x hx
              rw [hk1]
              exact List.mem_map.2 ⟨x.1, List.mem_filter.2 ⟨List.mem_range.2 (List.getElem?_eq_some_iff.1 ho1).1, by simp only [ho1]; simpa using ha1⟩, rfl⟩
            have hfree : ∀ k ∈ (aIdx opa.toList).map (fun j => key (st.nx + j)), st.H.get k = none := by
              intro k hk
              obtain ⟨j, hj, rfl⟩ := List.mem_map.1 hk
              exact r1 j hj
            have hH0 : H.get = addL (((aIdx opa.toList).map fun j => key (st.nx + j)).map fun k => (k, .dead)) st.H.get := by
              funext k; rw [r3 k, addL_dead]
            have ok : (mkRD ancs d).OK P call opa st.tm nt st.H.get := by
              refine ⟨?_, ?_, ?_, ?_, ?_, ?_, hids, ?_, ?_, ?_⟩
              · intro j k hk
                obtain ⟨o, ho, h1⟩ := s3 j k hk
                exact ⟨o, by rw [← hget]; exact ho, h1⟩
              · intro r s hrs hs
                have hp := List.pairwise_iff_getElem.1 (List.pairwise_reverse.2 e2.ord)
                have hs' : s < d.cs.reverse.length := by simpa [mkRD] using hs
                have := hp r s (by omega) hs' hrs
                simp only [mkRD]
                rw [List.getD_eq_getElem?_getD (l := d.cs.reverse), List.getD_eq_getElem?_getD (l := d.cs.reverse), List.getElem?_eq_getElem hs', List.getElem?_eq_getElem (show r < d.cs.reverse.length by omega)]
                exact this
              · intro i j oi oj t hoi hoj hdi hdj
                rcases Nat.lt_trichotomy i j with hij | hij | hij
                · exact absurd hdj (distE_spec _ s1 i j oi oj t hij (by rw [hget]; exact hoi) (by rw [hget]; exact hoj) hdi)
                · exact hij
                · exact absurd hdi (distE_spec _ s1 j i oj oi t hij (by rw [hget]; exact hoj) (by rw [hget]; exact hoi) hdj)
              · intro i oi t hoi hdi
                have := List.all_eq_true.1 hlt oi (List.mem_of_getElem? (by rw [hget]; exact hoi))
                rw [hdi] at this
                exact blt_lt this
              · intro j o ho
                rcases hgood j o ho with h1 | ⟨hnf, hrd, hc, hA⟩
                · exact h1
                · have hj := (Array.getElem?_eq_some_iff.1 ho).1
                  have hr := List.all_eq_true.1 hreads j (List.mem_range.2 (by omega))
                  simp only [hget, ho, hrd, hnf, Bool.not_false, Bool.and_self] at hr
                  split at hr
                  · cases hr
                  · rename_i hw
                    exact .skip _ (roE_sub rfl (DExt.refl d) j) hw (veq_eq hr) (fun r hr' => hc _ (mkRD_cs hr')) hA
                  · rename_i hw
                    refine .pure _ (roE_sub rfl (DExt.refl d) j) hw (fun r hr' => hc _ (mkRD_cs hr')) hA fun q hq hf => ⟨0, readH d.As ancs d.cs.reverse j q (d.hs.reverse.getD q .leaf), readH_get .., ?_⟩
                    have h2 := List.all_eq_true.1 hr q (List.mem_range.2 (by have : q ≤ d.cs.length := hq; omega))
                    rw [infeas_of hf hq, Bool.false_or] at h2
                    split at h2
                    · rename_i v hv
                      rw [show (mkRD ancs d).val j = v from (veq_eq h2).symm]
                      exact hv
                    · cases h2
              · show (d.As.map fun x => x.2.1).Nodup
                have hp := e2.ids
                have key' : ∀ (L : List (Nat × Key × Blk)), (∀ x ∈ L, x ∈ d.As) → (L.Pairwise fun x y => x.1 ≠ y.1) → (L.map fun x => x.2.1).Nodup := by
                  intro L
                  induction L with
                  | nil => intro _ _; exact .nil
                  | cons z L ih =>
                    intro hs hn
                    rw [List.pairwise_cons] at hn
                    rw [List.map_cons, List.nodup_cons]
                    refine ⟨fun hm => ?_, ih (fun x hx => hs x (by simp [hx])) hn.2⟩
                    obtain ⟨y, hy, e⟩ := List.mem_map.1 hm
                    exact hn.1 y hy (hkeyinj z (hs z (by simp)) y (hs y (by simp [hy])) e.symm)
                exact key' _ (fun x hx => hx) hp
              · intro x hx
                exact ⟨(e2.asi x hx).2.2.2, hfree _ (hDs x hx)⟩
              · refine ⟨_, hfree, hDs, ?_⟩
                rw [mkRD_Hs e1 (by simp)]
                exact hH0
              · intro D hD
                obtain ⟨j, o, ho, h1, h2⟩ := s4 D (by rw [hlen]; exact hD)
                exact ⟨j, o, by rw [← hget]; exact ho, h1, h2⟩
            refine wpIn_region_any hm ?_
            have hHR : HR M σ H.get w.drew ∧ Stp M st.H.get w M H.get w.drew := by
              have hup : ∀ {k b}, H.get k = some b → b.live = true → st.H.get k = some b := fun {k b} g l => by
                rw [r3 k] at g
                split at g
                · cases g; cases l
                · exact g
              have hdn : ∀ k b, st.H.get k = some b → H.get k = some b := fun k b g => by
                rw [r3 k, if_neg]
                · exact g
                · intro hk; rw [hfree k hk] at g; cases g
              refine ⟨⟨fun k b g l => ?_, fun k1 k2 b1 b2 p1 p2 g1 l1 g2 l2 m1 m2 e => hst.hp.inj k1 k2 b1 b2 p1 p2 (hup g1 l1) l1 (hup g2 l2) l2 m1 m2 e, fun k p hp => ?_, fun x hx => ⟨(hst.hp.gl x hx).1.same (w := w) (w' := w.drew) rfl, fun k b p g l m => (hst.hp.gl x hx).2 k b p (hup g l) l m⟩⟩,
                ⟨Le.refl _, rfl, rfl, rfl, Nat.le_refl _, fun _ _ _ => rfl, fun k hk => hdn k _ hk, fun _ _ h => .inl h, fun k b hb => ⟨b, hdn k b hb⟩, fun k b p g l m => .inr ⟨k, b, p, hup g l, l, m, rfl⟩⟩⟩
              · obtain ⟨p, hp, hb⟩ := hst.hp.blk k b (hup g l) l
                exact ⟨p, hp, hb.same (w := w) (w' := w.drew) rfl⟩
              · obtain ⟨b, hb⟩ := hst.hp.dom k p hp
                exact ⟨b, hdn k b hb⟩
            have hdn0 : ∀ j, dn (Array.replicate opa.size false) j = false := fun j => by
              unfold dn
              rw [Array.getD_eq_getD_getElem?, Array.getElem?_replicate]
              split <;> rfl
            have hRel : (mkRD ancs d).Rel σ opa st.tm nt a.defers M st.H.get w (Array.replicate opa.size false) a w.drew M 0 := by
              have hHs0 : (mkRD ancs d).Hs 0 = H := mkRD_Hs e1 (by simp)
              have hHD : (mkRD ancs d).HD (dn (Array.replicate opa.size false)) 0 = H.get := by
                unfold RD.HD
                rw [hHs0]
                have : (mkRD ancs d).pend (dn (Array.replicate opa.size false)) 0 = [] := by
                  unfold RD.pend
                  rw [List.map_eq_nil_iff, List.filter_eq_nil_iff]
                  intro x _
                  rw [hdn0]; simp
                rw [this]; rfl
              refine ⟨fun j k h => (by rw [hdn0] at h; cases h), Nat.zero_le _, fun r hr => (by rw [hdn0]; simp), hst.tm.1, rfl, fun i o t _ h => (by rw [hdn0] at h; cases h), fun t x e _ => hst.tm.opd _ _ e, by rw [hHD]; exact hHR.1, by rw [hHD]; exact hHR.2, ?_, ?_⟩
              · intro x hx _
                exact hst.hp.unplaced (hfree _ (hDs x hx))
              · intro x hx _
                rw [hHs0, r3, if_pos (hDs x hx)]
            refine RD.all rd hcall ok (fun t x e => by rw [← hst.tm.1]; exact hst.tm.lt t x e) ?_ opa.size (by simp) ?_ hRel
            · intro l a' w' M' q hR hdn
              have hq : q = d.cs.length := by
                have h1 : q ≤ d.cs.length := hR.hq
                rcases Nat.lt_or_ge q d.cs.length with h2 | h2
                · have h3 := (hR.nf q h2).1 (hdn _ (by
                    have := (e2.cs _ (mkRD_cs (ancs := ancs) (dF := d) h2)).2
                    omega))
                  omega
                · omega
              subst hq
              refine hQ M' a' w' ⟨⟨hR.sz, fun k t x hk => ?_⟩, ?_, by rw [hR.df]; exact hst.df.mono hR.st.le⟩ ?_
              · obtain ⟨h1, h2⟩ := finE_spec opa.toList (fun k t x h => (hst.tm.2 k t x h).1) k t x hk
                rcases h2 with ⟨j, o, hj, hd, hx⟩ | ⟨h2, h3⟩
                · rw [hget] at hj
                  refine ⟨h1, ok.lt j o t hj hd, ?_⟩
                  rw [hx, Nat.zero_add]
                  exact hR.new j o t hj (hdn j (Array.getElem?_eq_some_iff.1 hj).1) hd
                · obtain ⟨k1, k2, k3⟩ := hst.tm.2 k t x h2
                  refine ⟨k1, k2, hR.old t x (evO_of (by rw [← k1]; exact h2)) fun i o ho _ e => ?_⟩
                  exact h3 o (List.mem_of_getElem? (by rw [hget]; exact ho)) e
              all_goals
                have hfin : (mergeE (d.As.filter fun x => !d.mg.testBit x.1) d.H).get = (mkRD ancs d).HD (dn l) d.cs.length := by
                  rw [mergeE_get]
                  unfold RD.HD RD.pend
                  have hHm : (mkRD ancs d).Hs d.cs.length = d.H := by
                    have hl := e2.len
                    have hh := e2.head
                    rw [mkRD_Hs (DExt.refl d) (by omega)]
                    match hhs : d.hs, hl, hh with
                    | x :: xs, hl, hh =>
                      simp at hl hh
                      subst hh
                      simp only [List.reverse_cons]
                      rw [List.getD_eq_getElem?_getD, List.getElem?_append_right (by simp; omega)]
                      simp [← hl]
                  rw [hHm]
                  congr 2
                  show _ = List.filter _ d.As
                  apply List.filter_congr
                  intro x hx
                  rw [mrg_eq e2 (DExt.refl d)]
                  obtain ⟨-, ⟨o, ho, -⟩, -⟩ := e2.asi x hx
                  rw [hdn x.1 (by have := (List.getElem?_eq_some_iff.1 ho).1; omega)]
                  rfl
                simp only [hfin]
              · exact hR.hp
              · exact hR.st
            · have : ∀ n, left (Array.replicate opa.size false) n ≤ n := fun n => by
                induction n with
                | zero => simp [left]
                | succ n ih => simp only [left, hdn0]; omega
              exact this _
          · cases h
/-- the evaluator -/
noncomputable def evalE (P : Program) (L : Nat) : Nat → CallE := callE P (drawE P) L
theorem evalE_ok (hm : P.follows .mixedOrders = true) (L n : Nat) : CallOK P σ (evalE P L n) := callE_ok (fun call h => drawE_ok hm h) n
theorem hr_empty (w : World) (hG : ∀ x ∈ Tab.globs, GR σ x w) : HR (fun _ => none) σ (Tr.leaf : Tr Blk).get w :=
  ⟨fun k b g => (by rw [Tr.get_leaf] at g; cases g), fun k k' b b' p p' g => (by rw [Tr.get_leaf] at g; cases g), fun k p h => (by cases h), fun x hx => ⟨hG x hx, fun k b p g => (by rw [Tr.get_leaf] at g; cases g)⟩⟩
/-- A FUNCTION OF PLAIN DATA THAT EVALUATES TO A CLEAN VALUE -/
theorem eval_tab (hm : P.follows .mixedOrders = true) {L n : Nat} {f : FuncId} {args : List Value} {v : Value} (h : (match evalE P L n (.fn f) args .leaf 0 with | some (x, _, _) => veq x v && clean x | none => false) = true)
    (w : World) (hG : ∀ x ∈ Tab.globs, GR σ x w) {vs : List Value} (hvs : VRs (fun _ => none) σ args vs) :
    Calls P f vs.toArray w fun e w' => e = .returned v ∧ Below w.heap.size w w' := by
  split at h
  · rename_i x H nx hx
    rw [Bool.and_eq_true] at h
    refine ((evalE_ok (σ := σ) hm L n).fn f args .leaf 0 x H nx hx _ w vs (hr_empty w hG) hvs).mono ?_
    rintro e w' ⟨u, M', rfl, hvr, -, hs⟩
    rw [hvr.eq_of_clean h.2, veq_eq h.1]
    refine ⟨rfl, ?_⟩
    have : (Tr.leaf : Tr Blk).get = fun _ => none := by funext k; exact Tr.get_leaf k
    rw [this] at hs
    exact hs.below
  · cases h
end
end Go.Proofs.YtlpepmhpnmnpkaaDoor.Ev
namespace Go.Proofs.YtlpepmhpnmnpkaaDoor.Ev
open Go Go.RowKit
/-- with facts about what stays open -/
theorem eval_facts {P : Program} (T : List Fact) (G : List (Nat × List Value)) (hm : P.follows .mixedOrders = true) {L n : Nat} {f : FuncId} {args : List Value} {v : Value} (h : (match @evalE ⟨T, G⟩ P L n (.fn f) args .leaf 0 with | some (x, _, _) => veq x v && clean x | none => false) = true)
    (σ : Nat → Value) (w : World) (hG : ∀ x ∈ G, GR σ x w) {vs : List Value} (hvs : VRs (fun _ => none) σ args vs) (hT : ∀ f ∈ T, @Fact.Holds ⟨T, G⟩ P σ f) :
    Calls P f vs.toArray w fun e w' => e = .returned v ∧ Below w.heap.size w w' :=
  @eval_tab ⟨T, G⟩ P σ (@TabOK.mk ⟨T, G⟩ P σ hT) hm L n f args v h w hG vs hvs
theorem eval_clean {P : Program} (hm : P.follows .mixedOrders = true) {L n : Nat} {f : FuncId} {args : List Value} {v : Value} (h : (match @evalE ⟨[], []⟩ P L n (.fn f) args .leaf 0 with | some (x, _, _) => veq x v && clean x | none => false) = true)
    (σ : Nat → Value) (w : World) {vs : List Value} (hvs : VRs (fun _ => none) σ args vs) :
    Calls P f vs.toArray w fun e w' => e = .returned v ∧ Below w.heap.size w w' :=
  eval_facts [] [] hm h σ w (fun x hx => by cases hx) hvs (fun f hf => by cases hf)
end Go.Proofs.YtlpepmhpnmnpkaaDoor.Ev
