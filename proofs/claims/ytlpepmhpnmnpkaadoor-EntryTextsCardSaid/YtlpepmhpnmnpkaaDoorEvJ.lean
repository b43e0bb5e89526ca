/-
  A checked evaluator, part J: functions and rounds.
-/
import Derived.Test.YtlpepmhpnmnpkaaDoorEvI
set_option linter.unusedVariables false
set_option linter.unusedSimpArgs false
set_option linter.unusedSectionVars false
namespace Go.Proofs.YtlpepmhpnmnpkaaDoor.Ev
open Go Go.RowKit
variable [Tab]

section
variable {P : Program} {M M' : Mp} {σ : Nat → Value} [TabOK P σ] {w : World}
theorem argsE_tr : ∀ {xs vs : List Value} {pre : List Value} {i : Nat} {tm : Tr (Nat × Value)} {nt : Nat} {ts : Array Value}, VRs M σ xs vs → ts.size = nt → i = pre.length → (∃ rest, ts.toList = pre ++ vs ++ rest) →
    (∀ k t x, tm.get k = some (t, x) → k = key t ∧ t < nt ∧ VR M σ x (ts.getD t undef)) → ∀ k t x, (argsE xs i tm).get k = some (t, x) → k = key t ∧ t < nt ∧ VR M σ x (ts.getD t undef)
  | [], _, pre, i, tm, nt, ts, .nil, _, _, _, h => h
  | x :: xs, _, pre, i, tm, nt, ts, .cons (v := v) (vs := vs) hr hrs, hs, hi, ⟨rest, hrest⟩, h => by
    simp only [argsE]
    have hv : ts.toList[i]? = some v := by rw [hrest, hi]; simp
    have hlt : i < nt := by
      have := (List.getElem?_eq_some_iff.1 hv).1
      simp at this; omega
    refine argsE_tr (pre := pre ++ [v]) hrs hs (by simp [hi]) ⟨rest, by rw [hrest]; simp⟩ fun k t y hk => ?_
    rw [Tr.get_set] at hk
    split at hk
    · rename_i hkk
      cases hk
      refine ⟨hkk, hlt, ?_⟩
      have hv' : ts[i]? = some v := by simpa using hv
      simpa [Array.getD_eq_getD_getElem?, hv'] using hr
    · exact h k t y hk
theorem resE_run {nt : Nat} {st : St} {tmps : Array Value} (htm : TRv M σ nt st.tm tmps) (hhp : HR M σ st.H.get w) {g : ResultVar → Sem Value} (g1 : ∀ t, g (.tmp t) = pure (tmps.getD t undef)) (g2 : ∀ c t, g (.cell c t) = (do loadVar t (← asAddr (tmps.getD c undef)))) :
    ∀ {rs : List ResultVar} {vs : List Value}, resE P st rs = some vs → ∃ us, (rs.mapM g).run P w = .ok us w ∧ VRs M σ vs us
  | [], vs, e => by simp [resE] at e; subst e; exact ⟨[], by simp, .nil⟩
  | r :: rs, vs, e => by
    have hopd : Opd M σ (evO st.tm) ({ tmps := tmps, defers := [] } : Act).eval := TR.opd (a := { tmps := tmps, defers := [] }) htm
    simp only [resE] at e
    split at e
    · rename_i v vs' hv hvs
      cases e
      obtain ⟨us, h1, h2⟩ := resE_run htm hhp g1 g2 hvs
      have : ∃ u, (g r).run P w = .ok u w ∧ VR M σ v u := by
        cases r with
        | tmp t => exact ⟨tmps.getD t undef, by rw [g1]; simp, hopd _ _ hv⟩
        | cell c t =>
          simp only at hv
          split at hv
          · rename_i i o hp
            have hpr := hopd _ _ hp
            simp only [Act.eval] at hpr
            generalize hx : tmps.getD c undef = x at hpr
            cases hpr with
            | ptr _ hm =>
              obtain ⟨u, hu, hur⟩ := loadVar_run (P := P) hhp hv hm
              exact ⟨u, by rw [g2, hx]; simp [asAddr, hu], hur⟩
          · cases hv
      obtain ⟨u, hu, hur⟩ := this
      refine ⟨u :: us, ?_, .cons hur h2⟩
      simp only [List.mapM_cons, Sem.run_bind, hu, Result.andThen_ok, h1, Sem.run_pure]
    · cases e
theorem leaveE_ok {call : CallE} (hcall : CallOK P σ call) {fn : Func} {tmps : Array Value} {R : Ending → World → Prop} : ∀ {l : List Df} {ds : List Deferred} {H H' : Tr Blk} {nx nx' : Nat} {M : Mp} {w : World}, leaveE P call l H nx = some (H', nx') → HR M σ H.get w → DR M σ l ds →
    (∀ M' w', HR M' σ H'.get w' → Stp M H.get w M' H'.get w' → ∃ v, (results fn tmps).run P w' = .ok v w' ∧ R (.returned v) w') → LeavesInM Fence.wide 0 P fn tmps R ds .returning w
  | [], _, H, H', nx, nx', M, w, e, h, .nil, hR => by
    simp [leaveE] at e; obtain ⟨rfl, rfl⟩ := e
    exact hR M w h (Stp.refl _ _ _)
  | .mark i :: l, _, H, H', nx, nx', M, w, e, h, .mark _ (p := p) (ds := ds) hp hd, hR => by
    simp only [leaveE] at e
    split at e
    · rename_i hg
      have hb : w.heap[p.b]? = some (.deferred (some [])) := h.at hg rfl hp
      obtain ⟨a1, a2⟩ := h.putObj (b := .marks true) hg rfl hp (.deferred none) rfl (put_heap hb)
      refine ⟨by simp, .inl ⟨p.b, _, rfl, ?_, leaveE_ok hcall e (by rw [Tr.get_upd]; exact a1) hd fun M' w' h' s' => hR M' w' h' (Stp.trans a2 (by rw [Tr.get_upd] at s'; exact s'))⟩⟩
      simp [Instr.takeDeferred, run_getObj (P := P) hb (by simp), run_setObj (P := P) (o' := .deferred none) hb (by simp)]
    · cases e
  | .call f args :: l, _, H, H', nx, nx', M, w, e, h, .call _ (vs := vs) (captured := captured) (ds := ds) hv hd, hR => by
    simp only [leaveE] at e
    split at e
    · rename_i hb
      split at e
      · rename_i v H1 nx1 hc
        refine ⟨by simp, .inr ⟨(fun h => absurd h (by simp [Fence.wide])), .func f, captured, f, (vs.toList ++ captured.toList).toArray, rfl, ?_, fun g _ => trivial, ?_⟩⟩
        · simp only [invoke]
          rw [callFunc_run hb]
          congr 2
          apply Array.ext'
          simp
        · refine (hcall.dfn _ _ _ _ _ _ _ hc M w _ h hv).mono ?_
          rintro en u' w' ⟨rfl, u, M', rfl, -, hH', hs⟩
          show LeavesInM Fence.wide 0 P fn tmps R ds (settle .returning) w'
          exact leaveE_ok hcall e hH' (hd.mono hs.le) fun M2 w2 h2 s2 => hR M2 w2 h2 (hs.trans s2)
      · cases e
    · cases e
theorem paramsE_ok {nt : Nat} : ∀ {ts : List Tmp} {args vs : List Value} {tm tm' : Tr (Nat × Value)} {tmps : Array Value}, paramsE nt ts args tm = some tm' → VRs M σ args vs → TRv M σ nt tm tmps →
    TRv M σ nt tm' ((ts.zip vs).foldl (fun tmps (x : Tmp × Value) => tmps.setIfInBounds x.1 x.2) tmps)
  | [], [], _, tm, tm', tmps, e, .nil, h => by simp [paramsE] at e; subst e; exact h
  | [], _ :: _, _, tm, tm', tmps, e, .cons _ _, h => by simp [paramsE] at e
  | _ :: _, [], _, tm, tm', tmps, e, .nil, h => by simp [paramsE] at e
  | t :: ts, x :: args, _, tm, tm', tmps, e, .cons (v := v) (vs := vs) hr hrs, h => by
    simp only [paramsE] at e
    split at e
    · rename_i hlt
      have hlt := blt_lt hlt
      refine paramsE_ok (tmps := tmps.setIfInBounds t v) e hrs ⟨by simp [h.1], fun k t' y hk => ?_⟩
      rw [Tr.get_set] at hk
      split at hk
      · rename_i hkk
        cases hk
        refine ⟨hkk, hlt, ?_⟩
        have hsz : t < tmps.size := by rw [h.1]; exact hlt
        simpa [Array.getD, hsz] using hr
      · rename_i hkk
        obtain ⟨h1, h2, h3⟩ := h.2 k t' y hk
        have hne : t ≠ t' := by rintro rfl; exact hkk h1
        refine ⟨h1, h2, ?_⟩
        simpa [Array.getD_eq_getD_getElem?, Array.getElem?_setIfInBounds_ne hne] using h3
    · cases e
theorem foldl_zip {β : Type} (f : β → Tmp → Value → β) (ps : Array Tmp) (vs : List Value) (b : β) : (ps.zip vs.toArray).foldl (fun b (x, y) => f b x y) b = (ps.toList.zip vs).foldl (fun b x => f b x.1 x.2) b := by
  rw [← Array.foldl_toList, Array.toList_zip]
theorem roundBeginE_ok {l : Nat} {H H' : Tr Blk} (e : roundBeginE l H = some H') (h : HR M σ H.get w) {p : Place} (hp : M (key l) = some p) :
    ∃ w', (Instr.beginRound p.b).run P w = .ok () w' ∧ HR M σ H'.get w' ∧ Stp M H.get w M H'.get w' := by
  unfold roundBeginE at e
  split at e
  · rename_i pe tm nt ps asg body d hg
    cases e
    obtain ⟨L, h1, h2, h3, h4⟩ := h.at hg rfl hp
    obtain ⟨a1, a2⟩ := h.putObj (b := .loop .busy pe tm nt ps asg body d) hg rfl hp (.loop { L with state := .busy }) rfl ⟨_, put_heap h1, rfl, h3, h4⟩
    refine ⟨_, ?_, by rw [Tr.get_upd]; exact a1, by rw [Tr.get_upd]; exact a2⟩
    simp [Instr.beginRound, run_getLoop h1, run_setObj (P := P) (o' := .loop { L with state := .busy }) h1 (by simp), h2]
  · cases e
theorem roundEndE_ok {l : Nat} {ex : Ex} {H H' : Tr Blk} {v : Value} (e : roundEndE l ex H = some (v, H')) (h : HR M σ H.get w) {p : Place} (hp : M (key l) = some p) :
    ∃ w', (Instr.endRound p.b (match ex with | .normal => none | .ret => some .ret | .exit id => some (.exit id))).run P w = .ok v w' ∧ VR M σ v v ∧ HR M σ H'.get w' ∧ Stp M H.get w M H'.get w' := by
  unfold roundEndE at e
  split at e
  · rename_i s pe tm nt ps asg body d hg
    obtain ⟨L, h1, h2, h3, h4⟩ := h.at hg rfl hp
    have key : ∀ (s' : LoopState) (pe' : Option Code) (L' : Loop), L' = { L with state := s', pending := pe' } → HR M σ (H.set (key l) (.loop s' pe' tm nt ps asg body d)).get { w with heap := w.heap.setIfInBounds p.b (.loop L') } ∧ Stp M H.get w M (H.set (key l) (.loop s' pe' tm nt ps asg body d)).get { w with heap := w.heap.setIfInBounds p.b (.loop L') } := by
      rintro s' pe' L' rfl
      rw [Tr.get_upd]
      exact h.putObj (b := .loop s' pe' tm nt ps asg body d) hg rfl hp (.loop _) rfl ⟨_, put_heap h1, rfl, rfl, h4⟩
    cases ex with
    | normal =>
      cases e
      obtain ⟨k1, k2⟩ := key .ready none _ rfl
      exact ⟨_, by simp [Instr.endRound, run_getLoop h1, run_setObj (P := P) h1], .bool _, k1, k2⟩
    | ret =>
      cases e
      obtain ⟨k1, k2⟩ := key .done (some .ret) _ rfl
      exact ⟨_, by simp [Instr.endRound, run_getLoop h1, run_setObj (P := P) h1], .bool _, k1, k2⟩
    | exit id =>
      cases e
      obtain ⟨k1, k2⟩ := key .done (some (.exit id)) _ rfl
      exact ⟨_, by simp [Instr.endRound, run_getLoop h1, run_setObj (P := P) h1], .bool _, k1, k2⟩
  · cases e
theorem VRs.one' {vs us : List Value} (hur : VRs M σ vs us) : VR M σ (oneE vs) (oneE us) := by
  match vs, us, hur with
  | _, _, .nil => exact .tuple .nil
  | _, _, .cons h .nil => exact h
  | _, _, .cons h (.cons h' h'') => exact .tuple (.cons h (.cons h' h''))
theorem okvs_eq : ∀ {xs us : List Value}, (∀ x ∈ xs, okv σ x) → VRs M σ xs us → us = xs.map (inst σ)
  | _, _, _, .nil => rfl
  | _, _, h, .cons hr hrs => by rw [List.map_cons, (h _ List.mem_cons_self).eq hr, okvs_eq (fun x hx => h x (List.mem_cons_of_mem _ hx)) hrs]
/-- a call of which it is known what it comes to -/
theorem callF_run {f : FuncId} {args vs : List Value} {y : Value} (hy : callF f args Tab.table = some y) {H : Tr Blk} (hH : HR M σ H.get w) (hvs : VRs M σ args vs) :
    Calls P f vs.toArray w fun e w' => ∃ u M', e = .returned u ∧ VR M' σ y u ∧ HR M' σ H.get w' ∧ Stp M H.get w M' H.get w' := by
  obtain ⟨h1, u, h2, h3⟩ := callF_ok (P := P) (σ := σ) TabOK.ok hy
  rw [okvs_eq h1 hvs]
  refine (h3 w fun x hx => (hH.gl x hx).1).mono ?_
  rintro e w' ⟨rfl, hb⟩
  refine ⟨_, M, rfl, h2.mono (le_none M), hH.keep (fun k b p g l m => hb.block _ (hH.place_lt g l m)) (fun x hx => hb.block _ (hH.gl x hx).1.lt), ⟨Le.refl _, hb.os, hb.tape, hb.output, hb.size, fun j hj _ => hb.block j hj, fun _ h => h, fun _ _ h => .inl h, fun _ b h => ⟨b, h⟩, fun k b p h l m => .inr ⟨k, b, p, h, l, m, rfl⟩⟩⟩
theorem stepS_ok {opa : Array Oper} {nt : Nat} {o : Oper} {st st' : St} (e : stepS P nt opa.toList o st = some st') {a : Act} (h : SR M σ nt st a w) {cs : List Frame} (hrec : recoverD cs = none) {K : Act → World → Prop} {Kp : List PanicEntry → World → Prop}
    (hK : ∀ M' a' w', SR M' σ nt st' a' w' → a'.defers = a.defers → Stp M st.H.get w M' st'.H.get w' → K a' w') :
    if Region.wanted o (yielded opa a.tmps) then
      match (execOp a.eval o).run P w with
      | .ok .recover w' => K (a.put o.dst .nilIface) w'
      | .ok (.value v) w' => K (a.put o.dst v) w'
      | .ok .skip w' => K (a.put o.dst undef) w'
      | .halt (.panic v) w' => Kp [{ v, recovered := false }] w'
      | _ => False
    else K (a.put o.dst undef) w := by
  unfold stepS at e
  simp only [forceN_eq] at e
  have hd : ∀ v, (a.put o.dst v).defers = a.defers := fun v => by cases o.dst <;> rfl
  have hput : ∀ {M'} {x v : Value} {tm'} {w'}, Le M M' → VR M' σ x v → putE nt st.tm o.dst x = some tm' → ∀ {H nx}, HR M' σ H.get w' → SR M' σ nt ⟨tm', H, nx, st.df⟩ (a.put o.dst v) w' := fun {M'} {x v} {tm'} {w'} hl hr hp {H nx} hH =>
    ⟨(h.tm.mono hl).put hr hp, hH, by rw [hd]; exact h.df.mono hl⟩
  split at e
  · rename_i hw
    rw [wantE_ok rfl h.tm hw]
    split at e
    · rename_i tm hp
      cases e
      simp only [Bool.false_eq_true, if_false]
      exact hK M _ _ (hput (Le.refl _) undef_vr hp h.hp) (hd _) (Stp.refl _ _ _)
    · cases e
  · rename_i hw
    rw [wantE_ok rfl h.tm hw]
    simp only [if_true]
    split at e
    · rename_i hr
      split at e
      · rename_i tm hp
        cases e
        have : (execOp a.eval o).run P w = .ok .recover w := by
          unfold isRecover at hr
          split at hr
          · rename_i c ho
            split at hr
            · rename_i hc
              simp [execOp, ho, resolve, hc, invoke, builtin]
            · cases hr
          · cases hr
        rw [this]
        exact hK M _ _ (hput (Le.refl _) .nili hp h.hp) (hd _) (Stp.refl _ _ _)
      · cases e
    · split at e
      · rename_i v hv
        split at e
        · rename_i tm hp
          cases e
          obtain ⟨u, hr, hvr⟩ := evOp_ok (P := P) h.hp h.tm.opd hv
          rcases hr with hr | ⟨hr, rfl⟩ <;> rw [hr] <;> exact hK M _ _ (hput (Le.refl _) hvr hp h.hp) (hd _) (Stp.refl _ _ _)
        · cases e
      · rename_i b mk hv
        split at e
        · rename_i hfresh
          split at e
          · rename_i tm hp
            cases e
            obtain ⟨hl, ob, n, u, hr, hbr, hmk⟩ := evOp_ok (P := P) h.hp h.tm.opd hv
            rw [hr]
            have hM := h.hp.unplaced hfresh
            have hn := h.hp.make (b := b) (n := n) (o := ob) hM (hbr _ (ins_le hM _))
            have hs := (Stp.refl M st.H.get w).alloc hM hfresh b n ob
            exact hK _ _ _ (hput hs.le (hmk _ _ (ins_same _ _ _)) hp (by rw [Tr.get_upd]; exact hn)) (hd _) (by rw [Tr.get_upd]; exact hs)
          · cases e
        · cases e
      · rename_i v H nx hv
        split at e
        · rename_i tm hp
          cases e
          obtain ⟨u, M', w', hr, hvr, hH, hs⟩ := evOp_ok (P := P) h.hp h.tm.opd hv
          rcases hr with hr | ⟨hr, rfl⟩ <;> rw [hr] <;> exact hK M' _ _ (hput hs.le hvr hp hH) (hd _) hs
        · cases e
      · cases e
  · cases e
theorem stepsS_ok {opa : Array Oper} {nt : Nat} {cs : List Frame} (hrec : recoverD cs = none) {Q : Exit → Act → List Frame → World → Prop} : ∀ (l : List Oper) (i : Nat) {M : Mp} {w : World} {st st' : St} {a : Act}, opa.toList.drop i = l →
    stepsS P nt opa.toList l st = some st' → SR M σ nt st a w → (∀ M' a' w', SR M' σ nt st' a' w' → a'.defers = a.defers → Stp M st.H.get w M' st'.H.get w' → Q .normal a' cs w') → wpOpsSIn Fence.wide 0 P opa Q (List.range' i l.length) a cs w
  | [], i, M, w, st, st', a, hl, e, h, hQ => by
    simp [stepsS] at e; subst e
    exact hQ M a w h rfl (Stp.refl _ _ _)
  | o :: l, i, M, w, st, st', a, hl, e, h, hQ => by
    simp only [stepsS] at e
    split at e
    · rename_i st1 h1
      have ho : opa[i]? = some o := by
        have : opa.toList[i]? = some o := by
          have := congrArg (fun l : List Oper => l[0]?) hl
          simpa using this
        simpa using this
      have hl' : opa.toList.drop (i + 1) = l := by
        have := congrArg List.tail hl
        simpa using this
      rw [List.length_cons, List.range'_succ]
      simp only [wpOpsSIn, ho]
      refine ⟨fun _ _ => trivial, ?_⟩
      have := stepS_ok (K := fun a' w' => wpOpsSIn Fence.wide 0 P opa Q (List.range' (i + 1) l.length) a' cs w') (Kp := fun ch w' => Q (.panic ch) a cs w') h1 h hrec (fun M' a' w' h' hd hs => stepsS_ok hrec l (i + 1) hl' e h' fun M2 a2 w2 h2 hd2 hs2 => hQ M2 a2 w2 h2 (hd2.trans hd) (hs.trans hs2))
      rw [hrec]
      exact this
    · cases e
theorem execS_ok {call : CallE} (hcall : CallOK P σ call) {draw : DrawE} (hdraw : DrawOK P σ draw) {nt L : Nat} {cs : List Frame} (hrec : recoverD cs = none) : ∀ (c : Code) {M : Mp} {w : World} {st : St} {a : Act} {ex : Ex} {st' : St},
    execS P call draw nt L c st = some (ex, st') → SR M σ nt st a w → ∀ Q : Exit → Act → List Frame → World → Prop, (∀ M' a' w', SR M' σ nt st' a' w' → Stp M st.H.get w M' st'.H.get w' → Q ex.to a' cs w') → c.wpSIn Fence.wide 0 P Q a cs w := by
  intro c
  have other : ∀ (c : Code) {M : Mp} {w : World} {st : St} {a : Act} {ex : Ex} {st' : St}, execE P call draw nt L none c st = some (ex, st') → SR M σ nt st a w → ∀ Q : Exit → Act → List Frame → World → Prop, (∀ M' a' w', SR M' σ nt st' a' w' → Stp M st.H.get w M' st'.H.get w' → Q ex.to a' cs w') → c.wpSIn Fence.wide 0 P Q a cs w :=
    fun c M w st a ex st' e h Q hQ => wpSIn_of_wpIn rfl (execE_ok (r := none) hcall hdraw c e h .none _ fun M' a' w' h' hs => hQ M' a' w' h' hs)
  induction c with
  | seq x y ihx ihy =>
    intro M w st a ex st' e h Q hQ
    simp only [execS] at e
    refine wpSIn_seq ?_
    split at e
    · rename_i st1 h1
      exact ihx h1 h _ fun M1 a1 w1 hs1 s1 => ihy e hs1 Q fun M2 a2 w2 hs2 s2 => hQ M2 a2 w2 hs2 (s1.trans s2)
    · rename_i r' hne
      · refine ihx e h _ fun M1 a1 w1 hs1 s1 => ?_
        cases ex with
        | normal => exact absurd e (hne _)
        | ret => exact hQ M1 a1 w1 hs1 s1
        | exit id => exact hQ M1 a1 w1 hs1 s1
  | cond c x y ihx ihy =>
    intro M w st a ex st' e h Q hQ
    simp only [execS] at e
    split at e
    · rename_i hc
      exact wpSIn_cond (t := true) ((h.tm.opd _ _ hc).eq_of_clean rfl) (ihx e h Q hQ)
    · rename_i hc
      exact wpSIn_cond (t := false) ((h.tm.opd _ _ hc).eq_of_clean rfl) (ihy e h Q hQ)
    · cases e
  | region id ops d =>
    intro M w st a ex st' e h Q hQ
    simp only [execS] at e
    split at e
    · split at e
      · rename_i st1 h1
        cases e
        refine wpSIn_region ?_
        have := stepsS_ok (Q := Q) hrec ops.toList 0 rfl h1 h fun M' a' w' h' _ hs => hQ M' a' w' h' hs
        rw [Array.length_toList, ← List.range_eq_range'] at this
        exact this
      · cases e
    · exact other _ e h Q hQ
  | _ => intro M w st a ex st' e h Q hQ; exact other _ e h Q hQ
theorem res_run {fn : Func} {tmps : Array Value} {nt : Nat} {st : St} {vs : List Value} (htm : TRv M σ nt st.tm tmps) (hhp : HR M σ st.H.get w) (hres : resE P st fn.results.toList = some vs) :
    ∃ us, (results fn tmps).run P w = .ok (oneE us) w ∧ VRs M σ vs us := by
  have ⟨us, hu, hur⟩ := resE_run (P := P) (st := st) htm hhp (g := fun | .tmp t => pure (tmps.getD t undef) | .cell c t => do loadVar t (← asAddr (tmps.getD c undef))) (fun _ => rfl) (fun _ _ => rfl) hres
  refine ⟨us, ?_, hur⟩
  unfold results
  rw [Array.mapM_eq_mapM_toList, Sem.run_bind, Sem.run_map]
  refine (congrArg (fun x : Result (List Value) => (x.andThen fun a w' => Result.ok a.toArray w').andThen fun (a : Array Value) w' => Sem.run P (pure (if h : a.size = 1 then a[0] else Value.tuple a)) w') ((congrArg (fun (g : ResultVar → Sem Value) => Sem.run P (List.mapM g fn.results.toList) w) (?_ : _ = _)).trans hu)).trans ?_
  · funext r; cases r <;> rfl
  simp only [Result.andThen_ok]
  match us with
  | [] => rfl
  | [u] => rfl
  | u :: u' :: us => rfl
theorem callE_ok {draw : CallE → DrawE} (hdraw : ∀ call, CallOK P σ call → DrawOK P σ (draw call)) {L : Nat} : ∀ n, CallOK P σ (callE P draw L n)
  | 0 => ⟨fun f args H nx v H' nx' e => by simp [callE] at e, fun f args H nx v H' nx' e => by simp [callE] at e, fun f args H nx v H' nx' e => by simp [callE] at e⟩
  | n + 1 => by
    have ih := callE_ok hdraw (L := L) n
    refine ⟨fun f args H nx v H' nx' e M w vs hH hvs => ?_, fun l args H nx v H' nx' e M w vs p LL r hH hvs hm hLL => ?_, fun f args H nx v H' nx' e M w vs hH hvs => ?_⟩
    · simp only [callE] at e
      split at e
      · rename_i y hy
        cases e
        exact callF_run hy hH hvs
      split at e
      · rename_i y hy
        cases e
        exact stF_run hy hH hvs
      split at e
      · rename_i fn hfn
        split at e
        · rename_i c hc
          have hlen := hvs.length
          refine (callsIn_wide (n := 0)).1 (callsIn_of_wp_marks (n := 0) hfn hc trivial ?_)
          have hst : SR M σ (args.length + (fn.ntmps - args.length)) ⟨argsE args 0 .leaf, H, nx, []⟩ { tmps := vs.toArray ++ Array.replicate (fn.ntmps - vs.toArray.size) undef, defers := [] } w := by
            refine ⟨⟨by simp [hlen], ?_⟩, hH, .nil⟩
            exact argsE_tr (pre := []) hvs (by simp [hlen]) rfl ⟨List.replicate (fn.ntmps - vs.length) undef, by simp⟩ (fun k t x hk => by rw [Tr.get_leaf] at hk; cases hk)
          split at e
          · cases e
          · rename_i ex st hne hex
            split at e
            · rename_i Hl nxl hl
              split at e
              · rename_i vs' hres
                cases e
                have key : ∀ M' a' w', SR M' σ (args.length + (fn.ntmps - args.length)) st a' w' → Stp M H.get w M' st.H.get w' →
                    LeavesInM Fence.wide 0 P fn a'.tmps (fun e w' => ∃ u M', e = .returned u ∧ VR M' σ (oneE vs') u ∧ HR M' σ H'.get w' ∧ Stp M H.get w M' H'.get w') a'.defers .returning w' := by
                  intro M' a' w' hst' hs
                  refine leaveE_ok ih hl hst'.hp hst'.df fun M2 w2 h2 s2 => ?_
                  have ⟨us, hu, hur⟩ := resE_run (P := P) (st := ⟨st.tm, H', nx', st.df⟩) (hst'.tm.mono s2.le) h2 (g := fun | .tmp t => pure (a'.tmps.getD t undef) | .cell c t => do loadVar t (← asAddr (a'.tmps.getD c undef))) (fun _ => rfl) (fun _ _ => rfl) hres
                  have hrun : (results fn a'.tmps).run P w2 = .ok (oneE us) w2 := by
                    unfold results
                    rw [Array.mapM_eq_mapM_toList, Sem.run_bind, Sem.run_map]
                    refine (congrArg (fun x : Result (List Value) => (x.andThen fun a w' => Result.ok a.toArray w').andThen fun (a : Array Value) w' => Sem.run P (pure (if h : a.size = 1 then a[0] else Value.tuple a)) w') ((congrArg (fun (g : ResultVar → Sem Value) => Sem.run P (List.mapM g fn.results.toList) w2) (?_ : _ = _)).trans hu)).trans ?_
                    · funext r; cases r <;> rfl
                    simp only [Result.andThen_ok]
                    match us with
                    | [] => rfl
                    | [u] => rfl
                    | u :: u' :: us => rfl
                  exact ⟨_, hrun, _, M2, rfl, hur.one', h2, hs.trans s2⟩
                refine execE_ok (r := none) ih (hdraw _ ih) c hex hst .none _ fun M' a' w' hst' hs => ?_
                cases ex with
                | normal => exact key M' a' w' hst' hs
                | ret => exact key M' a' w' hst' hs
                | exit id => exact (hne _ rfl).elim
              · cases e
            · cases e
          · cases e
        · cases e
      · cases e
    · simp only [callE] at e
      split at e
      · rename_i s pe tm nt ps asg body d hg
        obtain ⟨L0, h1, h2, h3, h4, h5, h6, h7, h8⟩ := hH.at hg rfl hm
        rw [hLL] at h1; cases h1
        split at e
        · rename_i tm' hpar
          split at e
          · rename_i st1 hex1
            split at e
            · rename_i H1 hbeg
              split at e
              · rename_i ex st2 hex2
                split at e
                · rename_i v2 H2 hend
                  cases e
                  refine roundIn_of_wpIn (F := FR r) (FR_fn r _) ?_
                  have htm : TRv M σ nt tm' (roundTmps LL vs.toArray) := by
                    unfold roundTmps
                    rw [foldl_zip (fun (tmps : Array Value) t a => tmps.setIfInBounds t a), h5]
                    exact paramsE_ok hpar hvs h4
                  have hst : SR M σ nt ⟨tm', H, nx, []⟩ { tmps := roundTmps LL vs.toArray, defers := [] } w := ⟨htm, hH, .nil⟩
                  rw [h6, h7]
                  refine execE_ok (ro := some l) (r := some p.b) ih (hdraw _ ih) asg hex1 hst (.some hm) _ fun M1 a1 w1 hs1 s1 => ?_
                  have hm1 := s1.le _ _ hm
                  obtain ⟨w2, b1, b2, b3⟩ := roundBeginE_ok (P := P) hbeg hs1.hp hm1
                  refine ⟨w2, b1, ?_⟩
                  have hst2 : SR M1 σ nt ⟨st1.tm, H1, st1.nx, st1.df⟩ a1 w2 := ⟨hs1.tm, b2, hs1.df⟩
                  refine execE_ok (ro := some l) (r := some p.b) ih (hdraw _ ih) body hex2 hst2 (.some hm1) _ fun M2 a2 w3 hs2 s2 => ?_
                  obtain ⟨w4, c1, c2, c3, c4⟩ := roundEndE_ok (P := P) hend hs2.hp (s2.le _ _ hm1)
                  have hfin := ((s1.trans b3).trans s2).trans c4
                  cases ex with
                  | normal => exact ⟨v, w4, c1, v, M2, rfl, c2, c3, hfin⟩
                  | ret => exact ⟨v, w4, c1, v, M2, rfl, c2, c3, hfin⟩
                  | exit id => exact ⟨v, w4, c1, v, M2, rfl, c2, c3, hfin⟩
                · cases e
              · cases e
            · cases e
          · cases e
        · cases e
      · cases e
    · simp only [callE] at e
      split at e
      · rename_i fn hfn
        split at e
        · rename_i c hc
          have hlen := hvs.length
          refine callsDIn_of_wpSIn (n := 0) hfn hc trivial fun c₀ cs hu => ?_
          have hst : SR M σ (args.length + (fn.ntmps - args.length)) ⟨argsE args 0 .leaf, H, nx, []⟩ { tmps := vs.toArray ++ Array.replicate (fn.ntmps - vs.toArray.size) undef, defers := [] } w := by
            refine ⟨⟨by simp [hlen], ?_⟩, hH, .nil⟩
            exact argsE_tr (pre := []) hvs (by simp [hlen]) rfl ⟨List.replicate (fn.ntmps - vs.length) undef, by simp⟩ (fun k t x hk => by rw [Tr.get_leaf] at hk; cases hk)
          have hrec : recoverD (c₀ :: cs) = none := by simp [recoverD, hu]
          split at e
          · cases e
          · rename_i ex st hne hex
            split at e
            · rename_i hdf
              split at e
              · rename_i vs' hres
                cases e
                have key : ∀ M' a' w', SR M' σ (args.length + (fn.ntmps - args.length)) st a' w' → Stp M H.get w M' st.H.get w' →
                    a'.defers = [] ∧ ∃ u', c₀ :: cs = { c₀ with mode := u' } :: cs ∧ ∃ v, (results fn a'.tmps).run P w' = .ok v w' ∧ (u' = .returning ∧ ∃ u M', Ending.returned v = .returned u ∧ VR M' σ (oneE vs') u ∧ HR M' σ st.H.get w' ∧ Stp M H.get w M' st.H.get w') := by
                  intro M' a' w' hst' hs
                  have hd := hst'.df
                  rw [hdf] at hd
                  obtain ⟨us, hrun, hur⟩ := res_run hst'.tm hst'.hp hres
                  refine ⟨by generalize a'.defers = ds at hd; cases hd; rfl, .returning, by rw [← hu], _, hrun, rfl, _, M', rfl, hur.one', hst'.hp, hs⟩
                refine execS_ok ih (hdraw _ ih) hrec c hex hst _ fun M' a' w' hst' hs => ?_
                cases ex with
                | normal => exact key M' a' w' hst' hs
                | ret => exact key M' a' w' hst' hs
                | exit id => exact (hne _ rfl).elim
              · cases e
            · cases e
          · cases e
        · cases e
      · cases e
end
end Go.Proofs.YtlpepmhpnmnpkaaDoor.Ev
