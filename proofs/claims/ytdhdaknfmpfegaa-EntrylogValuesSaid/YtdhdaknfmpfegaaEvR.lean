/-
  A checked evaluator, part J: functions and rounds.
-/
import Derived.Test.YtdhdaknfmpfegaaEvI
import Derived.OrdersIn
import Derived.RegionTactic
section
set_option linter.unusedVariables false
set_option linter.unusedSimpArgs false
set_option linter.unusedSectionVars false
namespace Go.Proofs.Ytdhdaknfmpfegaa.Ev
open Go Go.RowKit
variable [Tab]

section
variable {P : Program} {M M' : Mp} {σ : Nat → Value} [TabOK P σ] {w : World}
theorem argsE_tr : ∀ {xs vs : List Value} {pre : List Value} {i : Nat} {tm : Tr (Nat × Value)} {nt : Nat} {ts : Array Value}, VRs M σ xs vs → ts.size = nt → i = pre.length → (∃ rest, ts.toList = pre ++ vs ++ rest) →
    (∀ k t x, tm.get k = some (t, x) → k = key t ∧ t < nt ∧ VR M σ x (ts.getD t undef)) → ∀ k t x, (argsE xs i tm).get k = some (t, x) → k = key t ∧ t < nt ∧ VR M σ x (ts.getD t undef)
  | [], _, pre, i, tm, nt, ts, .nil, _, _, _, h => h
  | x :: xs, _, pre, i, tm, nt, ts, .cons (v := v) (vs := vs) hr hrs, hs, hi, ⟨rest, hrest⟩, h => by
    simp only [argsE]
    have hv : ts.toList[i]? = some v := by rw [hrest, hi]; simp
    have hlt : i < nt := by
      have := (List.getElem?_eq_some_iff.1 hv).1
      simp at this; omega
    refine argsE_tr (pre := pre ++ [v]) hrs hs (by simp [hi]) ⟨rest, by rw [hrest]; simp⟩ fun k t y hk => ?_
    rw [Tr.get_set] at hk
    split at hk
    · rename_i hkk
      cases hk
      refine ⟨hkk, hlt, ?_⟩
      have hv' : ts[i]? = some v := by simpa using hv
      simpa [Array.getD_eq_getD_getElem?, hv'] using hr
    · exact h k t y hk
theorem resE_run {nt : Nat} {st : St} {tmps : Array Value} (htm : TRv M σ nt st.tm tmps) (hhp : HR M σ st.H.get w) {g : ResultVar → Sem Value} (g1 : ∀ t, g (.tmp t) = pure (tmps.getD t undef)) (g2 : ∀ c t, g (.cell c t) = (do loadVar t (← asAddr (tmps.getD c undef)))) :
    ∀ {rs : List ResultVar} {vs : List Value}, resE P st rs = some vs → ∃ us, (rs.mapM g).run P w = .ok us w ∧ VRs M σ vs us
  | [], vs, e => by simp [resE] at e; subst e; exact ⟨[], by simp, .nil⟩
  | r :: rs, vs, e => by
    have hopd : Opd M σ (evO st.tm) ({ tmps := tmps, defers := [] } : Act).eval := TR.opd (a := { tmps := tmps, defers := [] }) htm
    simp only [resE] at e
    split at e
    · rename_i v vs' hv hvs
      cases e
      obtain ⟨us, h1, h2⟩ := resE_run htm hhp g1 g2 hvs
      have : ∃ u, (g r).run P w = .ok u w ∧ VR M σ v u := by
        cases r with
        | tmp t => exact ⟨tmps.getD t undef, by rw [g1]; simp, hopd _ _ hv⟩
        | cell c t =>
          simp only at hv
          split at hv
          · rename_i i o hp
            have hpr := hopd _ _ hp
            simp only [Act.eval] at hpr
            generalize hx : tmps.getD c undef = x at hpr
            cases hpr with
            | ptr _ hm =>
              obtain ⟨u, hu, hur⟩ := loadVar_run (P := P) hhp hv hm
              exact ⟨u, by rw [g2, hx]; simp [asAddr, hu], hur⟩
          · cases hv
      obtain ⟨u, hu, hur⟩ := this
      refine ⟨u :: us, ?_, .cons hur h2⟩
      simp only [List.mapM_cons, Sem.run_bind, hu, Result.andThen_ok, h1, Sem.run_pure]
    · cases e
theorem leaveE_ok {call : CallE} (hcall : CallOK P σ call) {fn : Func} {tmps : Array Value} {R : Ending → World → Prop} : ∀ {l : List Df} {ds : List Deferred} {H H' : Tr Blk} {nx nx' : Nat} {M : Mp} {w : World}, leaveE P call l H nx = some (H', nx') → HR M σ H.get w → DR M σ l ds →
    (∀ M' w', HR M' σ H'.get w' → Stp M H.get w M' H'.get w' → ∃ v, (results fn tmps).run P w' = .ok v w' ∧ R (.returned v) w') → LeavesInM Fence.wide 0 P fn tmps R ds .returning w
  | [], _, H, H', nx, nx', M, w, e, h, .nil, hR => by
    simp [leaveE] at e; obtain ⟨rfl, rfl⟩ := e
    exact hR M w h (Stp.refl _ _ _)
  | .mark i :: l, _, H, H', nx, nx', M, w, e, h, .mark _ (p := p) (ds := ds) hp hd, hR => by
    simp only [leaveE] at e
    split at e
    · rename_i hg
      have hb : w.heap[p.b]? = some (.deferred (some [])) := h.at hg rfl hp
      obtain ⟨a1, a2⟩ := h.putObj (b := .marks true) hg rfl hp (.deferred none) rfl (put_heap hb)
      refine ⟨by simp, .inl ⟨p.b, _, rfl, ?_, leaveE_ok hcall e (by rw [Tr.get_upd]; exact a1) hd fun M' w' h' s' => hR M' w' h' (Stp.trans a2 (by rw [Tr.get_upd] at s'; exact s'))⟩⟩
      simp [Instr.takeDeferred, run_getObj (P := P) hb (by simp), run_setObj (P := P) (o' := .deferred none) hb (by simp)]
    · cases e
  | .call f args :: l, _, H, H', nx, nx', M, w, e, h, .call _ (vs := vs) (captured := captured) (ds := ds) hv hd, hR => by
    simp only [leaveE] at e
    split at e
    · rename_i hb
      split at e
      · rename_i v H1 nx1 hc
        refine ⟨by simp, .inr ⟨(fun h => absurd h (by simp [Fence.wide])), .func f, captured, f, (vs.toList ++ captured.toList).toArray, rfl, ?_, fun g _ => trivial, ?_⟩⟩
        · simp only [invoke]
          rw [callFunc_run hb]
          congr 2
          apply Array.ext'
          simp
        · refine (hcall.dfn _ _ _ _ _ _ _ hc M w _ h hv).mono ?_
          rintro en u' w' ⟨rfl, u, M', rfl, -, hH', hs⟩
          show LeavesInM Fence.wide 0 P fn tmps R ds (settle .returning) w'
          exact leaveE_ok hcall e hH' (hd.mono hs.le) fun M2 w2 h2 s2 => hR M2 w2 h2 (hs.trans s2)
      · cases e
    · cases e
theorem paramsE_ok {nt : Nat} : ∀ {ts : List Tmp} {args vs : List Value} {tm tm' : Tr (Nat × Value)} {tmps : Array Value}, paramsE nt ts args tm = some tm' → VRs M σ args vs → TRv M σ nt tm tmps →
    TRv M σ nt tm' ((ts.zip vs).foldl (fun tmps (x : Tmp × Value) => tmps.setIfInBounds x.1 x.2) tmps)
  | [], [], _, tm, tm', tmps, e, .nil, h => by simp [paramsE] at e; subst e; exact h
  | [], _ :: _, _, tm, tm', tmps, e, .cons _ _, h => by simp [paramsE] at e
  | _ :: _, [], _, tm, tm', tmps, e, .nil, h => by simp [paramsE] at e
  | t :: ts, x :: args, _, tm, tm', tmps, e, .cons (v := v) (vs := vs) hr hrs, h => by
    simp only [paramsE] at e
    split at e
    · rename_i hlt
      have hlt := blt_lt hlt
      refine paramsE_ok (tmps := tmps.setIfInBounds t v) e hrs ⟨by simp [h.1], fun k t' y hk => ?_⟩
      rw [Tr.get_set] at hk
      split at hk
      · rename_i hkk
        cases hk
        refine ⟨hkk, hlt, ?_⟩
        have hsz : t < tmps.size := by rw [h.1]; exact hlt
        simpa [Array.getD, hsz] using hr
      · rename_i hkk
        obtain ⟨h1, h2, h3⟩ := h.2 k t' y hk
        have hne : t ≠ t' := by rintro rfl; exact hkk h1
        refine ⟨h1, h2, ?_⟩
        simpa [Array.getD_eq_getD_getElem?, Array.getElem?_setIfInBounds_ne hne] using h3
    · cases e
theorem foldl_zip {β : Type} (f : β → Tmp → Value → β) (ps : Array Tmp) (vs : List Value) (b : β) : (ps.zip vs.toArray).foldl (fun b (x, y) => f b x y) b = (ps.toList.zip vs).foldl (fun b x => f b x.1 x.2) b := by
  rw [← Array.foldl_toList, Array.toList_zip]
theorem roundBeginE_ok {l : Nat} {H H' : Tr Blk} (e : roundBeginE l H = some H') (h : HR M σ H.get w) {p : Place} (hp : M (key l) = some p) :
    ∃ w', (Instr.beginRound p.b).run P w = .ok () w' ∧ HR M σ H'.get w' ∧ Stp M H.get w M H'.get w' := by
  unfold roundBeginE at e
  split at e
  · rename_i pe tm nt ps asg body d hg
    cases e
    obtain ⟨L, h1, h2, h3, h4⟩ := h.at hg rfl hp
    obtain ⟨a1, a2⟩ := h.putObj (b := .loop .busy pe tm nt ps asg body d) hg rfl hp (.loop { L with state := .busy }) rfl ⟨_, put_heap h1, rfl, h3, h4⟩
    refine ⟨_, ?_, by rw [Tr.get_upd]; exact a1, by rw [Tr.get_upd]; exact a2⟩
    simp [Instr.beginRound, run_getLoop h1, run_setObj (P := P) (o' := .loop { L with state := .busy }) h1 (by simp), h2]
  · cases e
theorem roundEndE_ok {l : Nat} {ex : Ex} {H H' : Tr Blk} {v : Value} (e : roundEndE l ex H = some (v, H')) (h : HR M σ H.get w) {p : Place} (hp : M (key l) = some p) :
    ∃ w', (Instr.endRound p.b (match ex with | .normal => none | .ret => some .ret | .exit id => some (.exit id))).run P w = .ok v w' ∧ VR M σ v v ∧ HR M σ H'.get w' ∧ Stp M H.get w M H'.get w' := by
  unfold roundEndE at e
  split at e
  · rename_i s pe tm nt ps asg body d hg
    obtain ⟨L, h1, h2, h3, h4⟩ := h.at hg rfl hp
    have key : ∀ (s' : LoopState) (pe' : Option Code) (L' : Loop), L' = { L with state := s', pending := pe' } → HR M σ (H.set (key l) (.loop s' pe' tm nt ps asg body d)).get { w with heap := w.heap.setIfInBounds p.b (.loop L') } ∧ Stp M H.get w M (H.set (key l) (.loop s' pe' tm nt ps asg body d)).get { w with heap := w.heap.setIfInBounds p.b (.loop L') } := by
      rintro s' pe' L' rfl
      rw [Tr.get_upd]
      exact h.putObj (b := .loop s' pe' tm nt ps asg body d) hg rfl hp (.loop _) rfl ⟨_, put_heap h1, rfl, rfl, h4⟩
    cases ex with
    | normal =>
      cases e
      obtain ⟨k1, k2⟩ := key .ready none _ rfl
      exact ⟨_, by simp [Instr.endRound, run_getLoop h1, run_setObj (P := P) h1], .bool _, k1, k2⟩
    | ret =>
      cases e
      obtain ⟨k1, k2⟩ := key .done (some .ret) _ rfl
      exact ⟨_, by simp [Instr.endRound, run_getLoop h1, run_setObj (P := P) h1], .bool _, k1, k2⟩
    | exit id =>
      cases e
      obtain ⟨k1, k2⟩ := key .done (some (.exit id)) _ rfl
      exact ⟨_, by simp [Instr.endRound, run_getLoop h1, run_setObj (P := P) h1], .bool _, k1, k2⟩
  · cases e
theorem VRs.one' {vs us : List Value} (hur : VRs M σ vs us) : VR M σ (oneE vs) (oneE us) := by
  match vs, us, hur with
  | _, _, .nil => exact .tuple .nil
  | _, _, .cons h .nil => exact h
  | _, _, .cons h (.cons h' h'') => exact .tuple (.cons h (.cons h' h''))
theorem okvs_eq : ∀ {xs us : List Value}, (∀ x ∈ xs, okv σ x) → VRs M σ xs us → us = xs.map (inst σ)
  | _, _, _, .nil => rfl
  | _, _, h, .cons hr hrs => by rw [List.map_cons, (h _ List.mem_cons_self).eq hr, okvs_eq (fun x hx => h x (List.mem_cons_of_mem _ hx)) hrs]
/-- a call of which it is known what it comes to -/
theorem callF_run {f : FuncId} {args vs : List Value} {y : Value} (hy : callF f args Tab.table = some y) {H : Tr Blk} (hH : HR M σ H.get w) (hvs : VRs M σ args vs) :
    Calls P f vs.toArray w fun e w' => ∃ u M', e = .returned u ∧ VR M' σ y u ∧ HR M' σ H.get w' ∧ Stp M H.get w M' H.get w' := by
  obtain ⟨h1, u, h2, h3⟩ := callF_ok (P := P) (σ := σ) TabOK.ok hy
  rw [okvs_eq h1 hvs]
  refine (h3 w fun x hx => (hH.gl x hx).1).mono ?_
  rintro e w' ⟨rfl, hb⟩
  refine ⟨_, M, rfl, h2.mono (le_none M), hH.keep (fun k b p g l m => hb.block _ (hH.place_lt g l m)) (fun x hx => hb.block _ (hH.gl x hx).1.lt), ⟨Le.refl _, hb.os, hb.tape, hb.output, hb.size, fun j hj _ => hb.block j hj, fun _ h => h, fun _ _ h => .inl h, fun _ b h => ⟨b, h⟩, fun k b p h l m => .inr ⟨k, b, p, h, l, m, rfl⟩⟩⟩
theorem stepS_ok {opa : Array Oper} {nt : Nat} {o : Oper} {st st' : St} (e : stepS P nt opa.toList o st = some st') {a : Act} (h : SR M σ nt st a w) {cs : List Frame} (hrec : recoverD cs = none) {K : Act → World → Prop} {Kp : List PanicEntry → World → Prop}
    (hK : ∀ M' a' w', SR M' σ nt st' a' w' → a'.defers = a.defers → Stp M st.H.get w M' st'.H.get w' → K a' w') :
    if Region.wanted o (yielded opa a.tmps) then
      match (execOp a.eval o).run P w with
      | .ok .recover w' => K (a.put o.dst .nilIface) w'
      | .ok (.value v) w' => K (a.put o.dst v) w'
      | .ok .skip w' => K (a.put o.dst undef) w'
      | .halt (.panic v) w' => Kp [{ v, recovered := false }] w'
      | _ => False
    else K (a.put o.dst undef) w := by
  unfold stepS at e
  simp only [forceN_eq] at e
  have hd : ∀ v, (a.put o.dst v).defers = a.defers := fun v => by cases o.dst <;> rfl
  have hput : ∀ {M'} {x v : Value} {tm'} {w'}, Le M M' → VR M' σ x v → putE nt st.tm o.dst x = some tm' → ∀ {H nx}, HR M' σ H.get w' → SR M' σ nt ⟨tm', H, nx, st.df⟩ (a.put o.dst v) w' := fun {M'} {x v} {tm'} {w'} hl hr hp {H nx} hH =>
    ⟨(h.tm.mono hl).put hr hp, hH, by rw [hd]; exact h.df.mono hl⟩
  split at e
  · rename_i hw
    rw [wantE_ok rfl h.tm hw]
    split at e
    · rename_i tm hp
      cases e
      simp only [Bool.false_eq_true, if_false]
      exact hK M _ _ (hput (Le.refl _) undef_vr hp h.hp) (hd _) (Stp.refl _ _ _)
    · cases e
  · rename_i hw
    rw [wantE_ok rfl h.tm hw]
    simp only [if_true]
    split at e
    · rename_i hr
      split at e
      · rename_i tm hp
        cases e
        have : (execOp a.eval o).run P w = .ok .recover w := by
          unfold isRecover at hr
          split at hr
          · rename_i c ho
            split at hr
            · rename_i hc
              simp [execOp, ho, resolve, hc, invoke, builtin]
            · cases hr
          · cases hr
        rw [this]
        exact hK M _ _ (hput (Le.refl _) .nili hp h.hp) (hd _) (Stp.refl _ _ _)
      · cases e
    · split at e
      · rename_i v hv
        split at e
        · rename_i tm hp
          cases e
          obtain ⟨u, hr, hvr⟩ := evOp_ok (P := P) h.hp h.tm.opd hv
          rcases hr with hr | ⟨hr, rfl⟩ <;> rw [hr] <;> exact hK M _ _ (hput (Le.refl _) hvr hp h.hp) (hd _) (Stp.refl _ _ _)
        · cases e
      · rename_i b mk hv
        split at e
        · rename_i hfresh
          split at e
          · rename_i tm hp
            cases e
            obtain ⟨hl, ob, n, u, hr, hbr, hmk⟩ := evOp_ok (P := P) h.hp h.tm.opd hv
            rw [hr]
            have hM := h.hp.unplaced hfresh
            have hn := h.hp.make (b := b) (n := n) (o := ob) hM (hbr _ (ins_le hM _))
            have hs := (Stp.refl M st.H.get w).alloc hM hfresh b n ob
            exact hK _ _ _ (hput hs.le (hmk _ _ (ins_same _ _ _)) hp (by rw [Tr.get_upd]; exact hn)) (hd _) (by rw [Tr.get_upd]; exact hs)
          · cases e
        · cases e
      · rename_i v H nx hv
        split at e
        · rename_i tm hp
          cases e
          obtain ⟨u, M', w', hr, hvr, hH, hs⟩ := evOp_ok (P := P) h.hp h.tm.opd hv
          rcases hr with hr | ⟨hr, rfl⟩ <;> rw [hr] <;> exact hK M' _ _ (hput hs.le hvr hp hH) (hd _) hs
        · cases e
      · cases e
  · cases e
theorem stepsS_ok {opa : Array Oper} {nt : Nat} {cs : List Frame} (hrec : recoverD cs = none) {Q : Exit → Act → List Frame → World → Prop} : ∀ (l : List Oper) (i : Nat) {M : Mp} {w : World} {st st' : St} {a : Act}, opa.toList.drop i = l →
    stepsS P nt opa.toList l st = some st' → SR M σ nt st a w → (∀ M' a' w', SR M' σ nt st' a' w' → a'.defers = a.defers → Stp M st.H.get w M' st'.H.get w' → Q .normal a' cs w') → wpOpsSIn Fence.wide 0 P opa Q (List.range' i l.length) a cs w
  | [], i, M, w, st, st', a, hl, e, h, hQ => by
    simp [stepsS] at e; subst e
    exact hQ M a w h rfl (Stp.refl _ _ _)
  | o :: l, i, M, w, st, st', a, hl, e, h, hQ => by
    simp only [stepsS] at e
    split at e
    · rename_i st1 h1
      have ho : opa[i]? = some o := by
        have : opa.toList[i]? = some o := by
          have := congrArg (fun l : List Oper => l[0]?) hl
          simpa using this
        simpa using this
      have hl' : opa.toList.drop (i + 1) = l := by
        have := congrArg List.tail hl
        simpa using this
      rw [List.length_cons, List.range'_succ]
      simp only [wpOpsSIn, ho]
      refine ⟨fun _ _ => trivial, ?_⟩
      have := stepS_ok (K := fun a' w' => wpOpsSIn Fence.wide 0 P opa Q (List.range' (i + 1) l.length) a' cs w') (Kp := fun ch w' => Q (.panic ch) a cs w') h1 h hrec (fun M' a' w' h' hd hs => stepsS_ok hrec l (i + 1) hl' e h' fun M2 a2 w2 h2 hd2 hs2 => hQ M2 a2 w2 h2 (hd2.trans hd) (hs.trans hs2))
      rw [hrec]
      exact this
    · cases e
theorem execS_ok {call : CallE} (hcall : CallOK P σ call) {draw : DrawE} (hdraw : DrawOK P σ draw) {nt L : Nat} {cs : List Frame} (hrec : recoverD cs = none) : ∀ (c : Code) {M : Mp} {w : World} {st : St} {a : Act} {ex : Ex} {st' : St},
    execS P call draw nt L c st = some (ex, st') → SR M σ nt st a w → ∀ Q : Exit → Act → List Frame → World → Prop, (∀ M' a' w', SR M' σ nt st' a' w' → Stp M st.H.get w M' st'.H.get w' → Q ex.to a' cs w') → c.wpSIn Fence.wide 0 P Q a cs w := by
  intro c
  have other : ∀ (c : Code) {M : Mp} {w : World} {st : St} {a : Act} {ex : Ex} {st' : St}, execE P call draw nt L none c st = some (ex, st') → SR M σ nt st a w → ∀ Q : Exit → Act → List Frame → World → Prop, (∀ M' a' w', SR M' σ nt st' a' w' → Stp M st.H.get w M' st'.H.get w' → Q ex.to a' cs w') → c.wpSIn Fence.wide 0 P Q a cs w :=
    fun c M w st a ex st' e h Q hQ => wpSIn_of_wpIn rfl (execE_ok (r := none) hcall hdraw c e h .none _ fun M' a' w' h' hs => hQ M' a' w' h' hs)
  induction c with
  | seq x y ihx ihy =>
    intro M w st a ex st' e h Q hQ
    simp only [execS] at e
    refine wpSIn_seq ?_
    split at e
    · rename_i st1 h1
      exact ihx h1 h _ fun M1 a1 w1 hs1 s1 => ihy e hs1 Q fun M2 a2 w2 hs2 s2 => hQ M2 a2 w2 hs2 (s1.trans s2)
    · rename_i r' hne
      · refine ihx e h _ fun M1 a1 w1 hs1 s1 => ?_
        cases ex with
        | normal => exact absurd e (hne _)
        | ret => exact hQ M1 a1 w1 hs1 s1
        | exit id => exact hQ M1 a1 w1 hs1 s1
  | cond c x y ihx ihy =>
    intro M w st a ex st' e h Q hQ
    simp only [execS] at e
    split at e
    · rename_i hc
      exact wpSIn_cond (t := true) ((h.tm.opd _ _ hc).eq_of_clean rfl) (ihx e h Q hQ)
    · rename_i hc
      exact wpSIn_cond (t := false) ((h.tm.opd _ _ hc).eq_of_clean rfl) (ihy e h Q hQ)
    · cases e
  | region id ops d =>
    intro M w st a ex st' e h Q hQ
    simp only [execS] at e
    split at e
    · split at e
      · rename_i st1 h1
        cases e
        refine wpSIn_region ?_
        have := stepsS_ok (Q := Q) hrec ops.toList 0 rfl h1 h fun M' a' w' h' _ hs => hQ M' a' w' h' hs
        rw [Array.length_toList, ← List.range_eq_range'] at this
        exact this
      · cases e
    · exact other _ e h Q hQ
  | _ => intro M w st a ex st' e h Q hQ; exact other _ e h Q hQ
theorem res_run {fn : Func} {tmps : Array Value} {nt : Nat} {st : St} {vs : List Value} (htm : TRv M σ nt st.tm tmps) (hhp : HR M σ st.H.get w) (hres : resE P st fn.results.toList = some vs) :
    ∃ us, (results fn tmps).run P w = .ok (oneE us) w ∧ VRs M σ vs us := by
  have ⟨us, hu, hur⟩ := resE_run (P := P) (st := st) htm hhp (g := fun | .tmp t => pure (tmps.getD t undef) | .cell c t => do loadVar t (← asAddr (tmps.getD c undef))) (fun _ => rfl) (fun _ _ => rfl) hres
  refine ⟨us, ?_, hur⟩
  unfold results
  rw [Array.mapM_eq_mapM_toList, Sem.run_bind, Sem.run_map]
  refine (congrArg (fun x : Result (List Value) => (x.andThen fun a w' => Result.ok a.toArray w').andThen fun (a : Array Value) w' => Sem.run P (pure (if h : a.size = 1 then a[0] else Value.tuple a)) w') ((congrArg (fun (g : ResultVar → Sem Value) => Sem.run P (List.mapM g fn.results.toList) w) (?_ : _ = _)).trans hu)).trans ?_
  · funext r; cases r <;> rfl
  simp only [Result.andThen_ok]
  match us with
  | [] => rfl
  | [u] => rfl
  | u :: u' :: us => rfl
theorem callE_ok {draw : CallE → DrawE} (hdraw : ∀ call, CallOK P σ call → DrawOK P σ (draw call)) {L : Nat} : ∀ n, CallOK P σ (callE P draw L n)
  | 0 => ⟨fun f args H nx v H' nx' e => by simp [callE] at e, fun f args H nx v H' nx' e => by simp [callE] at e, fun f args H nx v H' nx' e => by simp [callE] at e⟩
  | n + 1 => by
    have ih := callE_ok hdraw (L := L) n
    refine ⟨fun f args H nx v H' nx' e M w vs hH hvs => ?_, fun l args H nx v H' nx' e M w vs p LL r hH hvs hm hLL => ?_, fun f args H nx v H' nx' e M w vs hH hvs => ?_⟩
    · simp only [callE] at e
      split at e
      · rename_i y hy
        cases e
        exact callF_run hy hH hvs
      split at e
      · rename_i y hy
        cases e
        exact stF_run hy hH hvs
      split at e
      · rename_i fn hfn
        split at e
        · rename_i c hc
          have hlen := hvs.length
          refine (callsIn_wide (n := 0)).1 (callsIn_of_wp_marks (n := 0) hfn hc trivial ?_)
          have hst : SR M σ (args.length + (fn.ntmps - args.length)) ⟨argsE args 0 .leaf, H, nx, []⟩ { tmps := vs.toArray ++ Array.replicate (fn.ntmps - vs.toArray.size) undef, defers := [] } w := by
            refine ⟨⟨by simp [hlen], ?_⟩, hH, .nil⟩
            exact argsE_tr (pre := []) hvs (by simp [hlen]) rfl ⟨List.replicate (fn.ntmps - vs.length) undef, by simp⟩ (fun k t x hk => by rw [Tr.get_leaf] at hk; cases hk)
          split at e
          · cases e
          · rename_i ex st hne hex
            split at e
            · rename_i Hl nxl hl
              split at e
              · rename_i vs' hres
                cases e
                have key : ∀ M' a' w', SR M' σ (args.length + (fn.ntmps - args.length)) st a' w' → Stp M H.get w M' st.H.get w' →
                    LeavesInM Fence.wide 0 P fn a'.tmps (fun e w' => ∃ u M', e = .returned u ∧ VR M' σ (oneE vs') u ∧ HR M' σ H'.get w' ∧ Stp M H.get w M' H'.get w') a'.defers .returning w' := by
                  intro M' a' w' hst' hs
                  refine leaveE_ok ih hl hst'.hp hst'.df fun M2 w2 h2 s2 => ?_
                  have ⟨us, hu, hur⟩ := resE_run (P := P) (st := ⟨st.tm, H', nx', st.df⟩) (hst'.tm.mono s2.le) h2 (g := fun | .tmp t => pure (a'.tmps.getD t undef) | .cell c t => do loadVar t (← asAddr (a'.tmps.getD c undef))) (fun _ => rfl) (fun _ _ => rfl) hres
                  have hrun : (results fn a'.tmps).run P w2 = .ok (oneE us) w2 := by
                    unfold results
                    rw [Array.mapM_eq_mapM_toList, Sem.run_bind, Sem.run_map]
                    refine (congrArg (fun x : Result (List Value) => (x.andThen fun a w' => Result.ok a.toArray w').andThen fun (a : Array Value) w' => Sem.run P (pure (if h : a.size = 1 then a[0] else Value.tuple a)) w') ((congrArg (fun (g : ResultVar → Sem Value) => Sem.run P (List.mapM g fn.results.toList) w2) (?_ : _ = _)).trans hu)).trans ?_
                    · funext r; cases r <;> rfl
                    simp only [Result.andThen_ok]
                    match us with
                    | [] => rfl
                    | [u] => rfl
                    | u :: u' :: us => rfl
                  exact ⟨_, hrun, _, M2, rfl, hur.one', h2, hs.trans s2⟩
                refine execE_ok (r := none) ih (hdraw _ ih) c hex hst .none _ fun M' a' w' hst' hs => ?_
                cases ex with
                | normal => exact key M' a' w' hst' hs
                | ret => exact key M' a' w' hst' hs
                | exit id => exact (hne _ rfl).elim
              · cases e
            · cases e
          · cases e
        · cases e
      · cases e
    · simp only [callE] at e
      split at e
      · rename_i s pe tm nt ps asg body d hg
        obtain ⟨L0, h1, h2, h3, h4, h5, h6, h7, h8⟩ := hH.at hg rfl hm
        rw [hLL] at h1; cases h1
        split at e
        · rename_i tm' hpar
          split at e
          · rename_i st1 hex1
            split at e
            · rename_i H1 hbeg
              split at e
              · rename_i ex st2 hex2
                split at e
                · rename_i v2 H2 hend
                  cases e
                  refine roundIn_of_wpIn (F := FR r) (FR_fn r _) ?_
                  have htm : TRv M σ nt tm' (roundTmps LL vs.toArray) := by
                    unfold roundTmps
                    rw [foldl_zip (fun (tmps : Array Value) t a => tmps.setIfInBounds t a), h5]
                    exact paramsE_ok hpar hvs h4
                  have hst : SR M σ nt ⟨tm', H, nx, []⟩ { tmps := roundTmps LL vs.toArray, defers := [] } w := ⟨htm, hH, .nil⟩
                  rw [h6, h7]
                  refine execE_ok (ro := some l) (r := some p.b) ih (hdraw _ ih) asg hex1 hst (.some hm) _ fun M1 a1 w1 hs1 s1 => ?_
                  have hm1 := s1.le _ _ hm
                  obtain ⟨w2, b1, b2, b3⟩ := roundBeginE_ok (P := P) hbeg hs1.hp hm1
                  refine ⟨w2, b1, ?_⟩
                  have hst2 : SR M1 σ nt ⟨st1.tm, H1, st1.nx, st1.df⟩ a1 w2 := ⟨hs1.tm, b2, hs1.df⟩
                  refine execE_ok (ro := some l) (r := some p.b) ih (hdraw _ ih) body hex2 hst2 (.some hm1) _ fun M2 a2 w3 hs2 s2 => ?_
                  obtain ⟨w4, c1, c2, c3, c4⟩ := roundEndE_ok (P := P) hend hs2.hp (s2.le _ _ hm1)
                  have hfin := ((s1.trans b3).trans s2).trans c4
                  cases ex with
                  | normal => exact ⟨v, w4, c1, v, M2, rfl, c2, c3, hfin⟩
                  | ret => exact ⟨v, w4, c1, v, M2, rfl, c2, c3, hfin⟩
                  | exit id => exact ⟨v, w4, c1, v, M2, rfl, c2, c3, hfin⟩
                · cases e
              · cases e
            · cases e
          · cases e
        · cases e
      · cases e
    · simp only [callE] at e
      split at e
      · rename_i fn hfn
        split at e
        · rename_i c hc
          have hlen := hvs.length
          refine callsDIn_of_wpSIn (n := 0) hfn hc trivial fun c₀ cs hu => ?_
          have hst : SR M σ (args.length + (fn.ntmps - args.length)) ⟨argsE args 0 .leaf, H, nx, []⟩ { tmps := vs.toArray ++ Array.replicate (fn.ntmps - vs.toArray.size) undef, defers := [] } w := by
            refine ⟨⟨by simp [hlen], ?_⟩, hH, .nil⟩
            exact argsE_tr (pre := []) hvs (by simp [hlen]) rfl ⟨List.replicate (fn.ntmps - vs.length) undef, by simp⟩ (fun k t x hk => by rw [Tr.get_leaf] at hk; cases hk)
          have hrec : recoverD (c₀ :: cs) = none := by simp [recoverD, hu]
          split at e
          · cases e
          · rename_i ex st hne hex
            split at e
            · rename_i hdf
              split at e
              · rename_i vs' hres
                cases e
                have key : ∀ M' a' w', SR M' σ (args.length + (fn.ntmps - args.length)) st a' w' → Stp M H.get w M' st.H.get w' →
                    a'.defers = [] ∧ ∃ u', c₀ :: cs = { c₀ with mode := u' } :: cs ∧ ∃ v, (results fn a'.tmps).run P w' = .ok v w' ∧ (u' = .returning ∧ ∃ u M', Ending.returned v = .returned u ∧ VR M' σ (oneE vs') u ∧ HR M' σ st.H.get w' ∧ Stp M H.get w M' st.H.get w') := by
                  intro M' a' w' hst' hs
                  have hd := hst'.df
                  rw [hdf] at hd
                  obtain ⟨us, hrun, hur⟩ := res_run hst'.tm hst'.hp hres
                  refine ⟨by generalize a'.defers = ds at hd; cases hd; rfl, .returning, by rw [← hu], _, hrun, rfl, _, M', rfl, hur.one', hst'.hp, hs⟩
                refine execS_ok ih (hdraw _ ih) hrec c hex hst _ fun M' a' w' hst' hs => ?_
                cases ex with
                | normal => exact key M' a' w' hst' hs
                | ret => exact key M' a' w' hst' hs
                | exit id => exact (hne _ rfl).elim
              · cases e
            · cases e
          · cases e
        · cases e
      · cases e
end
end Go.Proofs.Ytdhdaknfmpfegaa.Ev
end
section
set_option linter.unusedVariables false
set_option linter.unusedSimpArgs false
set_option linter.unusedSectionVars false
namespace Go.Proofs.Ytdhdaknfmpfegaa.Ev
open Go Go.RowKit
variable [Tab]

/-! ### blocks that stand by -/
def addL (L : List (Key × Blk)) (H : HP) : HP := L.foldr (fun x H => upd H x.1 x.2) H
theorem addL_nil (H : HP) : addL [] H = H := rfl
theorem addL_cons (x : Key × Blk) (L : List (Key × Blk)) (H : HP) : addL (x :: L) H = upd (addL L H) x.1 x.2 := rfl
theorem addL_not {L : List (Key × Blk)} {H : HP} {k : Key} (h : ∀ x ∈ L, x.1 ≠ k) : addL L H k = H k := by
  induction L with
  | nil => rfl
  | cons x L ih =>
    rw [addL_cons, upd_other _ _ (fun e => h x (by simp) e.symm)]
    exact ih fun y hy => h y (by simp [hy])
theorem addL_mem {L : List (Key × Blk)} {H : HP} (hn : (L.map (·.1)).Nodup) {x : Key × Blk} (h : x ∈ L) : addL L H x.1 = some x.2 := by
  induction L with
  | nil => cases h
  | cons y L ih =>
    rw [addL_cons]
    rw [List.map_cons, List.nodup_cons] at hn
    rcases List.mem_cons.1 h with rfl | h
    · exact upd_same _ _ _
    · rw [upd_other _ _ (fun e => hn.1 (by rw [← e]; exact List.mem_map_of_mem h))]
      exact ih hn.2 h
section
variable {P : Program} {M M' : Mp} {σ : Nat → Value} [TabOK P σ] {w w' : World} {H H' : HP}
/-- the blocks L stand by -/
theorem HR.framedL {L : List (Key × Blk)} (hn : (L.map (·.1)).Nodup) (hl : ∀ x ∈ L, x.2.live = true ∧ H x.1 = some .dead) (h : HR M σ (addL L H) w) (hs : Stp M H w M' H' w') (h' : HR M' σ H' w') :
    HR M' σ (addL L H') w' ∧ Stp M (addL L H) w M' (addL L H') w' := by
  induction L with
  | nil => exact ⟨h', hs⟩
  | cons x L ih =>
    rw [List.map_cons, List.nodup_cons] at hn
    have hx := hl x (by simp)
    have hd : addL L H x.1 = some .dead := by
      rw [addL_not fun y hy e => hn.1 (by rw [← e]; exact List.mem_map_of_mem hy)]; exact hx.2
    rw [addL_cons] at h ⊢
    obtain ⟨i1, i2⟩ := ih hn.2 (fun y hy => hl y (by simp [hy])) (h.forget hd)
    exact h.framed hx.1 hd i2 i1
theorem HR.forgetL {L : List (Key × Blk)} (hn : (L.map (·.1)).Nodup) (hl : ∀ x ∈ L, H x.1 = some .dead) (h : HR M σ (addL L H) w) : HR M σ H w := by
  induction L with
  | nil => exact h
  | cons x L ih =>
    rw [List.map_cons, List.nodup_cons] at hn
    have hd : addL L H x.1 = some .dead := by
      rw [addL_not fun y hy e => hn.1 (by rw [← e]; exact List.mem_map_of_mem hy)]; exact hl x (by simp)
    rw [addL_cons] at h
    exact ih hn.2 (fun y hy => hl y (by simp [hy])) (h.forget hd)
theorem addL_split {α : Type} (f : α → Key × Blk) {L : List α} (hn : (L.map fun x => (f x).1).Nodup) (p : α → Bool) (H : HP) : addL (L.map f) H = addL ((L.filter fun x => !p x).map f) (addL ((L.filter p).map f) H) := by
  have hn0 : ((L.map f).map (·.1)).Nodup := by rw [List.map_map]; exact hn
  have hsub : ∀ q : α → Bool, (((L.filter q).map f).map (·.1)).Nodup := fun q => ((List.filter_sublist.map f).map _).nodup hn0
  have huniq : ∀ (x y : α), x ∈ L → y ∈ L → (f y).1 = (f x).1 → y = x := by
    intro x y hx hy e
    induction L with
    | nil => cases hx
    | cons z L ih =>
      rw [List.map_cons, List.nodup_cons] at hn
      rcases List.mem_cons.1 hx with rfl | hx' <;> rcases List.mem_cons.1 hy with rfl | hy'
      · rfl
      · exact absurd (by rw [← e]; exact List.mem_map_of_mem hy') hn.1
      · exact absurd (by rw [e]; exact List.mem_map_of_mem hx') hn.1
      · refine ih hn.2 ?_ ?_ hx' hy'
        · rw [List.map_map]; exact hn.2
        · intro q
          have h2 : ((L.map f).map (·.1)).Nodup := by rw [List.map_map]; exact hn.2
          exact ((List.filter_sublist.map f).map _).nodup h2
  funext k
  by_cases hk : ∃ x ∈ L, (f x).1 = k
  · obtain ⟨x, hx, rfl⟩ := hk
    rw [addL_mem hn0 (List.mem_map_of_mem hx)]
    cases hp : p x with
    | true =>
      rw [addL_not, addL_mem (hsub p) (List.mem_map_of_mem (List.mem_filter.2 ⟨hx, hp⟩))]
      intro y hy e
      obtain ⟨z, hz, rfl⟩ := List.mem_map.1 hy
      rw [List.mem_filter] at hz
      rw [huniq x z hx hz.1 e, hp] at hz
      simp at hz
    | false => rw [addL_mem (hsub _) (List.mem_map_of_mem (List.mem_filter.2 ⟨hx, by simp [hp]⟩))]
  · have hno : ∀ q : α → Bool, ∀ x ∈ (L.filter q).map f, x.1 ≠ k := fun q x hx e => by
      obtain ⟨z, hz, rfl⟩ := List.mem_map.1 hx
      exact hk ⟨z, (List.mem_filter.1 hz).1, e⟩
    rw [addL_not (hno _), addL_not (hno _), addL_not]
    intro x hx e
    obtain ⟨z, hz, rfl⟩ := List.mem_map.1 hx
    exact hk ⟨z, hz, e⟩

/-! ### the region -/
/-- what is known of a region -/
structure RD where
  val : Nat → Value
  As : List (Nat × Key × Blk)
  m : Nat
  c : Nat → Nat
  Hs : Nat → Tr Blk
  anc : Nat → Nat → Bool
def RD.mrg (R : RD) (q i : Nat) : Bool := (List.range q).any fun s => R.anc (R.c s) i
/-- the operands of operation j -/
def RD.ro (R : RD) (ops : Array Oper) (tm : Tr (Nat × Value)) (j : Nat) : Operand → Option Value
  | .tmp t => match (List.range ops.size).find? fun i => (ops[i]?).any (·.dst == some t) with
    | none => evO tm (.tmp t)
    | some i => match R.anc j i with
      | true => some (R.val i)
      | false => match R.anc i j || i == j with
        | true => evO tm (.tmp t)
        | false => none
  | x => evO tm x
def RD.feas (R : RD) (j q : Nat) : Prop := (∀ r, r < q → R.anc (R.c r) j = false) ∧ (∀ r, q ≤ r → r < R.m → R.anc j (R.c r) = false)
def RD.L1 (R : RD) (r : Nat) : List (Key × Blk) := (R.As.filter fun x => R.anc (R.c r) x.1 && !R.mrg r x.1).map (·.2)
def RD.LJ (R : RD) (j q : Nat) : List (Key × Blk) := (R.As.filter fun x => R.anc j x.1 && !R.mrg q x.1).map (·.2)
def RD.pend (R : RD) (D : Nat → Bool) (q : Nat) : List (Key × Blk) := (R.As.filter fun x => D x.1 && !R.mrg q x.1).map (·.2)
def RD.HD (R : RD) (D : Nat → Bool) (q : Nat) : HP := addL (R.pend D q) (R.Hs q).get
/-- operands that are known -/
def RD.Sub (R : RD) (ops : Array Oper) (tm : Tr (Nat × Value)) (j : Nat) (ρ : Operand → Option Value) : Prop := ∀ x y, ρ x = some y → R.ro ops tm j x = some y
inductive RD.Good (P : Program) (call : CallE) (R : RD) (ops : Array Oper) (tm : Tr (Nat × Value)) (j : Nat) (o : Oper) : Prop where
  | skip (ρ : Operand → Option Value) (hρ : R.Sub ops tm j ρ) (hw : wantR ops.toList ρ o = some false) (hv : R.val j = undef) (hnf : ∀ r, r < R.m → R.c r ≠ j) (hA : ∀ x ∈ R.As, x.1 ≠ j)
  | pure (ρ : Operand → Option Value) (hρ : R.Sub ops tm j ρ) (hw : wantR ops.toList ρ o = some true) (hnf : ∀ r, r < R.m → R.c r ≠ j) (hA : ∀ x ∈ R.As, x.1 ≠ j)
      (h : ∀ q, q ≤ R.m → R.feas j q → ∃ nx G, G.get = addL (R.LJ j q) (R.Hs q).get ∧ evOp P o ρ G nx = some (.pure (R.val j)))
  | new (ρ : Operand → Option Value) (hρ : R.Sub ops tm j ρ) (hw : wantR ops.toList ρ o = some true) (hnf : ∀ r, r < R.m → R.c r ≠ j) (b : Blk) (mk : Nat → Value) (id : Nat) (hA : (j, key id, b) ∈ R.As) (hv : R.val j = mk id)
      (h : ∀ q, q ≤ R.m → R.feas j q → ∃ nx, evOp P o ρ (R.Hs q) nx = some (.new b mk))
  | upd (ρ : Operand → Option Value) (hρ : R.Sub ops tm j ρ) (hw : wantR ops.toList ρ o = some true) (hA : ∀ x ∈ R.As, x.1 ≠ j) (r : Nat) (hr : r < R.m) (hc : R.c r = j) (G : Tr Blk) (nx nx' : Nat) (hG : G.get = addL (R.L1 r) (R.Hs r).get)
      (h : evOp P o ρ G nx = some (.upd (R.val j) (R.Hs (r + 1)) nx'))
  | call (ρ : Operand → Option Value) (hρ : R.Sub ops tm j ρ) (hw : wantR ops.toList ρ o = some true) (hA : ∀ x ∈ R.As, x.1 ≠ j) (r : Nat) (hr : r < R.m) (hc : R.c r = j) (G : Tr Blk) (nx nx' : Nat) (hG : G.get = addL (R.L1 r) (R.Hs r).get) (f : Tg) (args : List Value)
      (h : evOp P o ρ G nx = some (.call f args)) (h' : call f args G nx = some (R.val j, R.Hs (r + 1), nx'))
/-- the conditions on what is known -/
structure RD.OK (P : Program) (call : CallE) (R : RD) (ops : Array Oper) (tm : Tr (Nat × Value)) (nt : Nat) (H0 : HP) : Prop where
  anc : ∀ j k, R.anc j k = true → ∃ o, ops[j]? = some o ∧ ∃ e ∈ o.after, Region.binds .any e = true ∧ (e.on = k ∨ R.anc e.on k = true)
  ord : ∀ r s, r < s → s < R.m → R.anc (R.c s) (R.c r) = true
  dst : ∀ (i j : Nat) (oi oj : Oper) (d : Tmp), ops[i]? = some oi → ops[j]? = some oj → oi.dst = some d → oj.dst = some d → i = j
  lt : ∀ (i : Nat) (oi : Oper) (d : Tmp), ops[i]? = some oi → oi.dst = some d → d < nt
  good : ∀ (j : Nat) (o : Oper), ops[j]? = some o → R.Good P call ops tm j o
  keys : (R.As.map (fun x => x.2.1)).Nodup
  ids : ∀ x ∈ R.As, ∀ y ∈ R.As, x.1 = y.1 → x = y
  live : ∀ x ∈ R.As, x.2.2.live = true ∧ H0 x.2.1 = none
  h0 : ∃ Ds : List Key, (∀ k ∈ Ds, H0 k = none) ∧ (∀ x ∈ R.As, x.2.1 ∈ Ds) ∧ (R.Hs 0).get = addL (Ds.map fun k => (k, .dead)) H0
  perm : ∀ D : Nat → Bool, (∃ j, j < ops.size ∧ D j = false) → ∃ (j : Nat) (o : Oper), ops[j]? = some o ∧ D j = false ∧ ∀ e ∈ o.after, Region.binds .any e = true → D e.on = true
def dn (l : Array Bool) (i : Nat) : Bool := l.getD i false
/-- where the region stands -/
structure RD.Rel (R : RD) (σ : Nat → Value) (ops : Array Oper) (tm : Tr (Nat × Value)) (nt : Nat) (ds : List Deferred) (M0 : Mp) (H0 : HP) (w0 : World) (l : Array Bool) (a : Act) (w : World) (M : Mp) (q : Nat) : Prop where
  cl : ∀ j k, dn l j = true → R.anc j k = true → dn l k = true
  hq : q ≤ R.m
  nf : ∀ r, r < R.m → (dn l (R.c r) = true ↔ r < q)
  sz : a.tmps.size = nt
  df : a.defers = ds
  new : ∀ (i : Nat) (o : Oper) (d : Tmp), ops[i]? = some o → dn l i = true → o.dst = some d → VR M σ (R.val i) (a.tmps.getD d undef)
  old : ∀ t x, evO tm (.tmp t) = some x → (∀ (i : Nat) (o : Oper), ops[i]? = some o → dn l i = true → o.dst ≠ some t) → VR M σ x (a.tmps.getD t undef)
  hp : HR M σ (R.HD (dn l) q) w
  st : Stp M0 H0 w0 M (R.HD (dn l) q) w
  no : ∀ x ∈ R.As, dn l x.1 = false → M x.2.1 = none
  dead : ∀ x ∈ R.As, R.mrg q x.1 = false → (R.Hs q).get x.2.1 = some .dead

variable {call : CallE} {R : RD} {ops : Array Oper} {tm : Tr (Nat × Value)} {nt : Nat} {ds : List Deferred} {M0 : Mp} {H0 : HP} {w0 : World} {l : Array Bool} {a : Act} {q : Nat} {Q : Exit → Act → World → Prop}
theorem dn_set {l : Array Bool} {j : Nat} (hj : j < l.size) (i : Nat) : dn (l.setIfInBounds j true) i = (decide (i = j) || dn l i) := by
  unfold dn
  by_cases e : i = j
  · subst e; simp [hj]
  · have : j ≠ i := fun h => e h.symm
    simp [Array.getD_eq_getD_getElem?, Array.getElem?_setIfInBounds_ne this, e]
theorem evO_other {x : Operand} {y : Value} (e : evO tm x = some y) (hx : ∀ t, x ≠ .tmp t) : VR M σ y (a.eval x) := by
  cases x with
  | tmp t => exact absurd rfl (hx t)
  | const v =>
    rw [evO_const] at e
    split at e
    · rename_i hc; cases e; exact VR.of_clean _ hc
    · cases e
  | func f => simp only [evO, opK] at e; cases e; exact .func f .nil .nil
  | global g => simp only [evO, opK] at e; cases e; exact .abs g 0
/-- what ready means -/
theorem RD.Rel.ready (ok : R.OK P call ops tm nt H0) (h : R.Rel σ ops tm nt ds M0 H0 w0 l a w M q) {j : Nat} (hj : j ∈ Region.ready .any ops l) :
    dn l j = false ∧ j < l.size ∧ ∃ o, ops[j]? = some o ∧ (∀ k, R.anc j k = true → dn l k = true) ∧ R.feas j q ∧ R.mrg q j = false := by
  obtain ⟨hu, o, ho, hall⟩ := mem_ready.1 hj
  have hsz : j < l.size := by
    rcases Nat.lt_or_ge j l.size with h | h
    · exact h
    · simp [Array.getElem?_eq_none h] at hu
  have hd : dn l j = false := by
    unfold dn; simp [hsz] at hu ⊢; exact hu
  have hanc : ∀ k, R.anc j k = true → dn l k = true := fun k hk => by
    obtain ⟨o', ho', e, he, hb, hk'⟩ := ok.anc j k hk
    rw [ho] at ho'; cases ho'
    have h1 := hall e he hb
    rcases hk' with rfl | hk'
    · exact h1
    · exact h.cl e.on k h1 hk'
  have hm : ∀ s, s < q → R.anc (R.c s) j = false := fun s hs => by
    cases hh : R.anc (R.c s) j with
    | false => rfl
    | true =>
      have := h.cl _ _ ((h.nf s (Nat.lt_of_lt_of_le hs h.hq)).2 hs) hh
      rw [hd] at this; cases this
  refine ⟨hd, hsz, o, ho, hanc, ⟨hm, fun r h1 h2 => ?_⟩, ?_⟩
  · cases hh : R.anc j (R.c r) with
    | false => rfl
    | true => have := (h.nf r h2).1 (hanc _ hh); omega
  · unfold RD.mrg
    rw [List.any_eq_false]
    intro s hs
    rw [hm s (List.mem_range.1 hs)]; simp
theorem RD.Rel.opd (ok : R.OK P call ops tm nt H0) (h : R.Rel σ ops tm nt ds M0 H0 w0 l a w M q) (htm : ∀ d x, evO tm (.tmp d) = some x → d < nt) {j : Nat} (hd : dn l j = false) (hanc : ∀ k, R.anc j k = true → dn l k = true) :
    Opd M σ (R.ro ops tm j) a.eval ∧ ∀ d x, R.ro ops tm j (.tmp d) = some x → d < a.tmps.size := by
  have key : ∀ t x, R.ro ops tm j (.tmp t) = some x → VR M σ x (a.tmps.getD t undef) ∧ t < a.tmps.size := by
    intro t x e
    rw [h.sz]
    simp only [RD.ro] at e
    split at e
    · rename_i hf
      refine ⟨h.old t x e fun i o ho hdn hdst => ?_, htm _ _ e⟩
      have := List.find?_eq_none.1 hf i (List.mem_range.2 (Array.getElem?_eq_some_iff.1 ho).1)
      simp [ho, hdst] at this
    · rename_i i hf
      have hi := List.find?_some hf
      obtain ⟨oi, hoi, hdi⟩ : ∃ oi, ops[i]? = some oi ∧ oi.dst = some t := by
        cases ho : ops[i]? with
        | none => simp [ho] at hi
        | some oi => simp [ho] at hi; exact ⟨oi, rfl, hi⟩
      split at e
      · rename_i ha
        cases e
        exact ⟨h.new i oi t hoi (hanc i ha) hdi, ok.lt i oi t hoi hdi⟩
      · split at e
        · rename_i hor
          refine ⟨h.old t x e fun i' o' ho' hdn hdst => ?_, htm _ _ e⟩
          have := ok.dst i i' oi o' t hoi ho' hdi hdst
          subst this
          rw [Bool.or_eq_true] at hor
          rcases hor with h1 | h1
          · have := h.cl i j hdn h1; rw [hd] at this; cases this
          · have : i = j := by simpa using h1
            subst this; rw [hd] at hdn; cases hdn
        · cases e
  refine ⟨fun x y e => ?_, fun d x e => (key d x e).2⟩
  cases x with
  | tmp t => exact (key t y e).1
  | const v => exact evO_other (tm := tm) (by simpa [RD.ro] using e) (by simp)
  | func f => exact evO_other (tm := tm) (by simpa [RD.ro] using e) (by simp)
  | global g => exact evO_other (tm := tm) (by simpa [RD.ro] using e) (by simp)
theorem mrg_succ (R : RD) (q i : Nat) : R.mrg (q + 1) i = (R.mrg q i || R.anc (R.c q) i) := by
  simp [RD.mrg, List.range_succ]

theorem RD.OK.keysF (ok : R.OK P call ops tm nt H0) (p : Nat × Key × Blk → Bool) : ((R.As.filter p).map (fun x => x.2.1)).Nodup := (List.filter_sublist.map _).nodup ok.keys
theorem RD.OK.keysL (ok : R.OK P call ops tm nt H0) (p : Nat × Key × Blk → Bool) : (((R.As.filter p).map (·.2)).map (·.1)).Nodup := by
  rw [List.map_map]; exact ok.keysF p
/-- the temporaries behind a step -/
theorem RD.Rel.put (ok : R.OK P call ops tm nt H0) (h : R.Rel σ ops tm nt ds M0 H0 w0 l a w M q) {j : Nat} {o : Oper} (ho : ops[j]? = some o) (hsz : j < l.size) {M' : Mp} (hl : Le M M') {u : Value} (hu : VR M' σ (R.val j) u) :
    (a.put o.dst u).tmps.size = nt ∧ (a.put o.dst u).defers = ds ∧
    (∀ (i : Nat) (oi : Oper) (d : Tmp), ops[i]? = some oi → dn (l.setIfInBounds j true) i = true → oi.dst = some d → VR M' σ (R.val i) ((a.put o.dst u).tmps.getD d undef)) ∧
    (∀ t x, evO tm (.tmp t) = some x → (∀ (i : Nat) (oi : Oper), ops[i]? = some oi → dn (l.setIfInBounds j true) i = true → oi.dst ≠ some t) → VR M' σ x ((a.put o.dst u).tmps.getD t undef)) := by
  have hother : ∀ d, o.dst ≠ some d → (a.put o.dst u).tmps.getD d undef = a.tmps.getD d undef := fun d hd => by
    cases hdst : o.dst with
    | none => rfl
    | some d' =>
      have hne : d' ≠ d := fun e => hd (by rw [hdst, e])
      simp [Act.put, Array.getD_eq_getD_getElem?, Array.getElem?_setIfInBounds_ne hne]
  refine ⟨by cases o.dst <;> simp [Act.put, h.sz], by cases o.dst <;> exact h.df, ?_, ?_⟩
  · intro i oi d hoi hdn hdst
    rw [dn_set hsz] at hdn
    by_cases e : i = j
    · subst e
      rw [ho] at hoi; cases hoi
      have hlt := ok.lt i o d ho hdst
      rw [← h.sz] at hlt
      simpa [Act.put, hdst, Array.getD, hlt] using hu
    · have hdn' : dn l i = true := by simpa [e] using hdn
      rw [hother d fun hd => e (ok.dst i j oi o d hoi ho hdst hd)]
      exact (h.new i oi d hoi hdn' hdst).mono hl
  · intro t x e hno
    rw [hother t (hno j o ho (by rw [dn_set hsz]; simp))]
    exact (h.old t x e fun i oi hoi hdn => hno i oi hoi (by rw [dn_set hsz]; simp [hdn])).mono hl
theorem RD.Rel.base (ok : R.OK P call ops tm nt H0) (h : R.Rel σ ops tm nt ds M0 H0 w0 l a w M q) : HR M σ (R.Hs q).get w := by
  refine HR.forgetL (ok.keysL _) ?_ h.hp
  intro x hx
  obtain ⟨y, hy, rfl⟩ := List.mem_map.1 hx
  rw [List.mem_filter, Bool.and_eq_true] at hy
  exact h.dead y hy.1 (by simpa using hy.2.2)
theorem RD.pend_same {D D' : Nat → Bool} (h : ∀ x ∈ R.As, D x.1 = D' x.1) : R.pend D q = R.pend D' q := by
  unfold RD.pend
  congr 1
  apply List.filter_congr
  intro x hx
  rw [h x hx]
theorem RD.Rel.plain (ok : R.OK P call ops tm nt H0) (h : R.Rel σ ops tm nt ds M0 H0 w0 l a w M q) {j : Nat} {o : Oper} (ho : ops[j]? = some o) (hsz : j < l.size) (hanc : ∀ k, R.anc j k = true → dn l k = true)
    (hnf : ∀ r, r < R.m → R.c r ≠ j) (hA : ∀ x ∈ R.As, x.1 ≠ j) {u : Value} (hu : VR M σ (R.val j) u) : R.Rel σ ops tm nt ds M0 H0 w0 (l.setIfInBounds j true) (a.put o.dst u) w M q := by
  obtain ⟨p1, p2, p3, p4⟩ := h.put ok ho hsz (Le.refl _) hu
  have hHD : R.HD (dn (l.setIfInBounds j true)) q = R.HD (dn l) q := by
    unfold RD.HD
    rw [RD.pend_same (D' := dn l) fun x hx => by rw [dn_set hsz]; simp [hA x hx]]
  refine ⟨?_, h.hq, ?_, p1, p2, p3, p4, by rw [hHD]; exact h.hp, by rw [hHD]; exact h.st, ?_, h.dead⟩
  · intro i k hi hk
    rw [dn_set hsz] at hi ⊢
    by_cases e : i = j
    · subst e; simp [hanc k hk]
    · have : dn l i = true := by simpa [e] using hi
      simp [h.cl i k this hk]
  · intro r hr
    rw [dn_set hsz]
    have : decide (R.c r = j) = false := by simpa using hnf r hr
    rw [this, Bool.false_or]; exact h.nf r hr
  · intro x hx hd
    rw [dn_set hsz, Bool.or_eq_false_iff] at hd
    exact h.no x hx hd.2
/-- the heap that an operation may read: all that it waits for -/
theorem RD.Rel.baseJ (ok : R.OK P call ops tm nt H0) (h : R.Rel σ ops tm nt ds M0 H0 w0 l a w M q) {j : Nat} (hanc : ∀ k, R.anc j k = true → dn l k = true) {G : Tr Blk} (hG : G.get = addL (R.LJ j q) (R.Hs q).get) : HR M σ G.get w := by
  have hLJ : R.LJ j q = ((R.As.filter fun x => dn l x.1 && !R.mrg q x.1).filter fun x => R.anc j x.1).map (·.2) := by
    unfold RD.LJ
    rw [List.filter_filter]
    congr 1
    apply List.filter_congr
    intro x hx
    cases ha : R.anc j x.1 with
    | false => simp
    | true => rw [hanc _ ha]; simp
  have hsplit : R.HD (dn l) q = addL (((R.As.filter fun x => dn l x.1 && !R.mrg q x.1).filter fun x => !R.anc j x.1).map (·.2)) G.get := by
    rw [hG, hLJ]
    exact addL_split (fun x : Nat × Key × Blk => x.2) (ok.keysF _) (fun x => R.anc j x.1) (R.Hs q).get
  have hp := h.hp
  rw [hsplit] at hp
  refine hp.forgetL (by rw [List.filter_filter]; exact ok.keysL _) fun x hx => ?_
  obtain ⟨y, hy, rfl⟩ := List.mem_map.1 hx
  rw [List.mem_filter, List.mem_filter, Bool.and_eq_true] at hy
  rw [hG, addL_not, h.dead y hy.1.1 (by simpa using hy.1.2.2)]
  intro z hz e
  obtain ⟨u, hu, rfl⟩ := List.mem_map.1 hz
  rw [List.mem_filter] at hu
  have hzx : u = y := by
    have hn := ok.keys
    have key : ∀ (L : List (Nat × Key × Blk)), (L.map (fun x => x.2.1)).Nodup → u ∈ L → y ∈ L → u = y := by
      intro L
      induction L with
      | nil => intro _ h; cases h
      | cons x L ih =>
        intro hn h1 h2
        rw [List.map_cons, List.nodup_cons] at hn
        rcases List.mem_cons.1 h1 with rfl | h1' <;> rcases List.mem_cons.1 h2 with rfl | h2'
        · rfl
        · exact absurd (by rw [e]; exact List.mem_map_of_mem (f := fun x : Nat × Key × Blk => x.2.1) h2') hn.1
        · exact absurd (by rw [← e]; exact List.mem_map_of_mem (f := fun x : Nat × Key × Blk => x.2.1) h1') hn.1
        · exact ih hn.2 h1' h2'
    exact key _ hn hu.1 hy.1.1
  subst hzx
  have h1 := hy.2
  have h2 := hu.2
  cases ha : R.anc j u.1 <;> simp [ha] at h1 h2
/-- behind an operation that is not free to come up anywhere -/
theorem RD.Rel.next (ok : R.OK P call ops tm nt H0) (h : R.Rel σ ops tm nt ds M0 H0 w0 l a w M q) {j : Nat} {o : Oper} (ho : ops[j]? = some o) (hsz : j < l.size) (hdn : dn l j = false) (hanc : ∀ k, R.anc j k = true → dn l k = true)
    (hA : ∀ x ∈ R.As, x.1 ≠ j) {r : Nat} (hr : r < R.m) (hc : R.c r = j) {G : Tr Blk} (hG : G.get = addL (R.L1 r) (R.Hs r).get) :
    HR M σ G.get w ∧ ∀ u M' w', VR M' σ (R.val j) u → HR M' σ (R.Hs (r + 1)).get w' → Stp M G.get w M' (R.Hs (r + 1)).get w' → R.Rel σ ops tm nt ds M0 H0 w0 (l.setIfInBounds j true) (a.put o.dst u) w' M' (q + 1) := by
  have hrq : r = q := by
    have h1 : ¬ r < q := fun hlt => by have := (h.nf r hr).2 hlt; rw [hc, hdn] at this; cases this
    have h2 : ¬ q < r := fun hlt => by
      have h3 := ok.ord q r hlt hr
      rw [hc] at h3
      have := (h.nf q (by omega)).1 (hanc _ h3)
      omega
    omega
  subst hrq
  have hL1 : R.L1 r = ((R.As.filter fun x => dn l x.1 && !R.mrg r x.1).filter fun x => R.anc j x.1).map (·.2) := by
    unfold RD.L1
    rw [List.filter_filter]
    congr 1
    apply List.filter_congr
    intro x hx
    rw [hc]
    cases ha : R.anc j x.1 with
    | false => simp
    | true => rw [hanc _ ha]; simp
  have hpend : R.pend (dn (l.setIfInBounds j true)) (r + 1) = ((R.As.filter fun x => dn l x.1 && !R.mrg r x.1).filter fun x => !R.anc j x.1).map (·.2) := by
    unfold RD.pend
    rw [List.filter_filter]
    congr 1
    apply List.filter_congr
    intro x hx
    rw [dn_set hsz, mrg_succ, hc]
    have : decide (x.1 = j) = false := by simpa using hA x hx
    rw [this, Bool.false_or]
    cases dn l x.1 <;> cases R.mrg r x.1 <;> cases R.anc j x.1 <;> rfl
  have hsplit : R.HD (dn l) r = addL (R.pend (dn (l.setIfInBounds j true)) (r + 1)) G.get := by
    rw [hG, hL1, hpend]
    exact addL_split (fun x : Nat × Key × Blk => x.2) (ok.keysF _) (fun x => R.anc j x.1) (R.Hs r).get
  have hGdead : ∀ x ∈ R.As, R.mrg (r + 1) x.1 = false → G.get x.2.1 = some .dead := fun x hx hm => by
    rw [mrg_succ, Bool.or_eq_false_iff, hc] at hm
    rw [hG, addL_not, h.dead x hx hm.1]
    intro y hy e
    obtain ⟨z, hz, rfl⟩ := List.mem_map.1 hy
    rw [List.mem_filter] at hz
    have hzx : z = x := by
      have hn := ok.keys
      have key : ∀ (L : List (Nat × Key × Blk)), (L.map (fun x => x.2.1)).Nodup → z ∈ L → x ∈ L → z = x := by
        intro L
        induction L with
        | nil => intro _ h; cases h
        | cons y L ih =>
          intro hn h1 h2
          rw [List.map_cons, List.nodup_cons] at hn
          rcases List.mem_cons.1 h1 with rfl | h1' <;> rcases List.mem_cons.1 h2 with rfl | h2'
          · rfl
          · exact absurd (by rw [e]; exact List.mem_map_of_mem (f := fun x : Nat × Key × Blk => x.2.1) h2') hn.1
          · exact absurd (by rw [← e]; exact List.mem_map_of_mem (f := fun x : Nat × Key × Blk => x.2.1) h1') hn.1
          · exact ih hn.2 h1' h2'
      exact key _ hn hz.1 hx
    subst hzx
    rw [hc, hm.2] at hz
    simp at hz
  have hpd : ∀ x ∈ R.pend (dn (l.setIfInBounds j true)) (r + 1), x.2.live = true ∧ G.get x.1 = some .dead := fun x hx => by
    obtain ⟨y, hy, rfl⟩ := List.mem_map.1 hx
    rw [List.mem_filter, Bool.and_eq_true] at hy
    exact ⟨(ok.live y hy.1).1, hGdead y hy.1 (by simpa using hy.2.2)⟩
  have hp := h.hp
  have hst := h.st
  rw [hsplit] at hp hst
  refine ⟨hp.forgetL (ok.keysL _) fun x hx => (hpd x hx).2, fun u M' w' hu hH' hS' => ?_⟩
  obtain ⟨f1, f2⟩ := hp.framedL (ok.keysL _) hpd hS' hH'
  obtain ⟨p1, p2, p3, p4⟩ := h.put ok ho hsz hS'.le hu
  refine ⟨?_, by omega, ?_, p1, p2, p3, p4, f1, hst.trans f2, ?_, ?_⟩
  · intro i k hi hk
    rw [dn_set hsz] at hi ⊢
    by_cases e : i = j
    · subst e; simp [hanc k hk]
    · have : dn l i = true := by simpa [e] using hi
      simp [h.cl i k this hk]
  · intro s hs
    rw [dn_set hsz]
    by_cases e : s = r
    · subst e; simp [hc]
    · have hne : R.c s ≠ j := fun hcs => by
        rcases Nat.lt_or_gt_of_ne e with hlt | hgt
        · have := (h.nf s hs).2 hlt; rw [hcs, hdn] at this; cases this
        · have h3 := ok.ord r s hgt hs
          rw [hc, hcs] at h3
          have := hanc _ h3; rw [hdn] at this; cases this
      have : decide (R.c s = j) = false := by simpa using hne
      rw [this, Bool.false_or, h.nf s hs]
      omega
  · intro x hx hd
    rw [dn_set hsz, Bool.or_eq_false_iff] at hd
    cases hm : M' x.2.1 with
    | none => rfl
    | some p =>
      rcases hS'.fresh _ _ hm with h1 | h1
      · rw [h.no x hx hd.2] at h1; cases h1
      · have hmr : R.mrg (r + 1) x.1 = false := by
          cases hmm : R.mrg (r + 1) x.1 with
          | false => rfl
          | true =>
            unfold RD.mrg at hmm
            obtain ⟨s, hs, ha⟩ := List.any_eq_true.1 hmm
            rw [List.mem_range] at hs
            by_cases e : s = r
            · subst e; rw [hc] at ha; have := hanc _ ha; rw [hd.2] at this; cases this
            · have := h.cl _ _ ((h.nf s (by omega)).2 (by omega)) ha
              rw [hd.2] at this; cases this
        rw [hGdead x hx hmr] at h1; cases h1
  · intro x hx hm
    exact hS'.dead _ (hGdead x hx hm)

theorem RD.step (rd : Option Nat) (hcall : CallOK P σ call) (ok : R.OK P call ops tm nt H0) (htm : ∀ d x, evO tm (.tmp d) = some x → d < nt) (h : R.Rel σ ops tm nt ds M0 H0 w0 l a w M q) {j : Nat} (hj : j ∈ Region.ready .any ops l) :
    wpOpIn (FR rd) 0 P ops Q j (fun a' w' => ∃ M' q', R.Rel σ ops tm nt ds M0 H0 w0 (l.setIfInBounds j true) a' w' M' q') a w := by
  obtain ⟨hdn, hsz, o, ho, hanc, hfeas, hmrg⟩ := h.ready ok hj
  obtain ⟨hη0, hlt0⟩ := h.opd ok htm hdn hanc
  have hη : ∀ {ρ}, R.Sub ops tm j ρ → Opd M σ ρ a.eval := fun hs x y e => hη0 x y (hs x y e)
  have hlt : ∀ {ρ}, R.Sub ops tm j ρ → ∀ d x, ρ (.tmp d) = some x → d < a.tmps.size := fun hs d x e => hlt0 d x (hs _ _ e)
  unfold wpOpIn
  rw [ho]
  show if Region.wanted o (yielded ops a.tmps) = true then Oper.wpIn (FR rd) 0 P o a w _ Q else _
  generalize hKK : (fun (a' : Act) (w' : World) => ∃ M' q', R.Rel σ ops tm nt ds M0 H0 w0 (l.setIfInBounds j true) a' w' M' q') = K
  have hK : ∀ (a' : Act) (w' : World), (∃ M' q', R.Rel σ ops tm nt ds M0 H0 w0 (l.setIfInBounds j true) a' w' M' q') → K a' w' := fun a' w' h => by rw [← hKK]; exact h
  rcases ok.good j o ho with ⟨ρ, hρ, hw, hv, hnf, hA⟩ | ⟨ρ, hρ, hw, hnf, hA, hev⟩ | ⟨ρ, hρ, hw, hnf, b, mk, id, hA, hv, hev⟩ | ⟨ρ, hρ, hw, hA, r, hr, hc, G, nx, nx', hG, hev⟩ | ⟨ρ, hρ, hw, hA, r, hr, hc, G, nx, nx', hG, f, args, hev, hcl⟩
  · rw [wantR_ok rfl (hη hρ) (hlt hρ) hw]
    simp only [Bool.false_eq_true, if_false]
    exact ⟨fun f _ => FR_fn rd f, hK _ _ ⟨M, q, h.plain ok ho hsz hanc hnf hA (by rw [hv]; exact undef_vr)⟩⟩
  · rw [wantR_ok rfl (hη hρ) (hlt hρ) hw]
    simp only [if_true]
    obtain ⟨nx, G, hG, hev⟩ := hev q h.hq hfeas
    exact snd_wp hcall (nx := nx) (evOp_nodefer hev) (h.baseJ ok hanc hG) (evOp_ok (P := P) (h.baseJ ok hanc hG) (hη hρ) hev)
      (fun v' u he hvr => by cases he; exact hK _ _ ⟨M, q, h.plain ok ho hsz hanc hnf hA hvr⟩) (fun _ _ _ _ _ he => by cases he) (fun _ _ _ _ _ _ he => by cases he) (fun _ _ he => by cases he)
  · rw [wantR_ok rfl (hη hρ) (hlt hρ) hw]
    simp only [if_true]
    obtain ⟨nx, hev⟩ := hev q h.hq hfeas
    refine snd_wp hcall (nx := nx) (evOp_nodefer hev) (h.base ok) (evOp_ok (P := P) (h.base ok) (hη hρ) hev) (fun _ _ he => by cases he) (fun b' mk' ob n u he hbl hbr hmk => ?_) (fun _ _ _ _ _ _ he => by cases he) (fun _ _ he => by cases he)
    cases he
    have hM : M (key id) = none := h.no _ hA hdn
    have hk0 : H0 (key id) = none := (ok.live _ hA).2
    have hnew := h.hp.make (b := b) (n := n) (o := ob) hM (hbr _ (ins_le hM _))
    have hst := h.st.alloc hM hk0 b n ob
    have hHD : upd (R.HD (dn l) q) (key id) b = R.HD (dn (l.setIfInBounds j true)) q := by
      have hmem : (key id, b) ∈ R.pend (dn (l.setIfInBounds j true)) q :=
        List.mem_map.2 ⟨_, List.mem_filter.2 ⟨hA, by rw [dn_set hsz]; simp [hmrg]⟩, rfl⟩
      funext k
      by_cases e : k = key id
      · subst e
        rw [upd_same]; unfold RD.HD
        exact (addL_mem (ok.keysL _) hmem).symm
      · rw [upd_other _ _ e]
        unfold RD.HD
        by_cases hk : ∃ x ∈ R.pend (dn l) q, x.1 = k
        · obtain ⟨x, hx, rfl⟩ := hk
          refine (addL_mem (ok.keysL _) hx).trans (addL_mem (x := x) (ok.keysL _) ?_).symm
          obtain ⟨y, hy, rfl⟩ := List.mem_map.1 hx
          rw [List.mem_filter, Bool.and_eq_true] at hy
          exact List.mem_map.2 ⟨y, List.mem_filter.2 ⟨hy.1, by rw [dn_set hsz]; simp [hy.2.1, hy.2.2]⟩, rfl⟩
        · rw [addL_not fun x hx e' => hk ⟨x, hx, e'⟩, addL_not]
          intro x hx e'
          obtain ⟨y, hy, rfl⟩ := List.mem_map.1 hx
          rw [List.mem_filter, dn_set hsz, Bool.and_eq_true, Bool.or_eq_true] at hy
          rcases hy.2.1 with h1 | h1
          · have := ok.ids y hy.1 _ hA (by simpa using h1)
            subst this
            exact e e'.symm
          · exact hk ⟨y.2, List.mem_map.2 ⟨y, List.mem_filter.2 ⟨hy.1, by simp [h1, hy.2.2]⟩, rfl⟩, e'⟩
    rw [hHD] at hnew hst
    have hu : VR (ins M (key id) ⟨w.heap.size, 0, n⟩) σ (R.val j) u := by rw [hv]; exact hmk _ _ (ins_same _ _ _)
    obtain ⟨p1, p2, p3, p4⟩ := h.put ok ho hsz (ins_le hM _) hu
    refine hK _ _ ⟨_, q, ⟨?_, h.hq, ?_, p1, p2, p3, p4, hnew, hst, ?_, h.dead⟩⟩
    · intro i k hi hk
      rw [dn_set hsz] at hi ⊢
      by_cases e : i = j
      · subst e; simp [hanc k hk]
      · have : dn l i = true := by simpa [e] using hi
        simp [h.cl i k this hk]
    · intro r hr
      rw [dn_set hsz]
      have : decide (R.c r = j) = false := by simpa using hnf r hr
      rw [this, Bool.false_or]; exact h.nf r hr
    · intro x hx hd
      rw [dn_set hsz, Bool.or_eq_false_iff] at hd
      have hne : x.2.1 ≠ key id := by
        intro e
        have hn := ok.keys
        have hxj : x.1 ≠ j := by simpa using hd.1
        have key : ∀ (L : List (Nat × Key × Blk)) (y : Nat × Key × Blk), (L.map (fun x => x.2.1)).Nodup → x ∈ L → y ∈ L → x.2.1 = y.2.1 → x = y := by
          intro L y
          induction L with
          | nil => intro _ h; cases h
          | cons z L ih =>
            intro hn h1 h2 e
            rw [List.map_cons, List.nodup_cons] at hn
            rcases List.mem_cons.1 h1 with rfl | h1' <;> rcases List.mem_cons.1 h2 with rfl | h2'
            · rfl
            · exact absurd (by rw [e]; exact List.mem_map_of_mem (f := fun x : Nat × Key × Blk => x.2.1) h2') hn.1
            · exact absurd (by rw [← e]; exact List.mem_map_of_mem (f := fun x : Nat × Key × Blk => x.2.1) h1') hn.1
            · exact ih hn.2 h1' h2' e
        have := key R.As _ hn hx hA e
        subst this
        exact hxj rfl
      simp only [ins, hne, if_false]
      exact h.no x hx hd.2
  · rw [wantR_ok rfl (hη hρ) (hlt hρ) hw]
    simp only [if_true]
    obtain ⟨hG1, hG2⟩ := h.next ok ho hsz hdn hanc hA hr hc hG
    refine snd_wp hcall (nx := nx) (evOp_nodefer hev) hG1 (evOp_ok (P := P) hG1 (hη hρ) hev) (fun _ _ he => by cases he) (fun _ _ _ _ _ he => by cases he) (fun v' H' nx'' u M' w' he hvr hH hs => ?_) (fun _ _ he => by cases he)
    cases he
    exact hK _ _ ⟨M', q + 1, hG2 u M' w' hvr hH hs⟩
  · rw [wantR_ok rfl (hη hρ) (hlt hρ) hw]
    simp only [if_true]
    obtain ⟨hG1, hG2⟩ := h.next ok ho hsz hdn hanc hA hr hc hG
    refine snd_wp hcall (nx := nx) (evOp_nodefer hev) hG1 (evOp_ok (P := P) hG1 (hη hρ) hev) (fun _ _ he => by cases he) (fun _ _ _ _ _ he => by cases he) (fun _ _ _ _ _ _ he => by cases he) (fun t' args' he => ?_)
    cases he
    exact ⟨_, _, _, hcl, fun u M' w' hvr hH hs => hK _ _ ⟨M', q + 1, hG2 u M' w' hvr hH hs⟩⟩
/-- how many have not come up -/
def left (l : Array Bool) : Nat → Nat
  | 0 => 0
  | n + 1 => left l n + (match dn l n with | true => 0 | false => 1)
theorem left_set {l : Array Bool} {j : Nat} (hj : j < l.size) (hd : dn l j = false) : ∀ n, left (l.setIfInBounds j true) n + (if j < n then 1 else 0) = left l n
  | 0 => by simp [left]
  | n + 1 => by
    have ih := left_set hj hd n
    simp only [left, dn_set hj]
    by_cases e : n = j
    · subst e
      simp only [hd]
      simp at ih ⊢
      omega
    · have h1 : (decide (n = j)) = false := by simpa using e
      rw [h1, Bool.false_or]
      by_cases h2 : j < n
      · rw [if_pos h2] at ih
        rw [if_pos (by omega)]
        omega
      · rw [if_neg h2] at ih
        rw [if_neg (by omega)]
        omega
theorem left_zero {l : Array Bool} : ∀ {n : Nat}, left l n = 0 → ∀ j, j < n → dn l j = true
  | n + 1, h, j, hj => by
    simp only [left] at h
    cases hd : dn l n with
    | true =>
      rcases Nat.lt_or_eq_of_le (Nat.le_of_lt_succ hj) with h1 | rfl
      · exact left_zero (by omega) j h1
      · exact hd
    | false => rw [hd] at h; simp at h
theorem RD.all (rd : Option Nat) (hcall : CallOK P σ call) (ok : R.OK P call ops tm nt H0) (htm : ∀ d x, evO tm (.tmp d) = some x → d < nt)
    (hQ : ∀ l a w M q, R.Rel σ ops tm nt ds M0 H0 w0 l a w M q → (∀ j, j < ops.size → dn l j = true) → Q .normal a w) : ∀ (fuel : Nat) {l : Array Bool} {a : Act} {w : World} {M : Mp} {q : Nat},
    l.size = ops.size → left l ops.size ≤ fuel → R.Rel σ ops tm nt ds M0 H0 w0 l a w M q → wpAnyIn (FR rd) 0 P .any ops Q fuel l a w := by
  intro fuel
  have hnone : ∀ {l : Array Bool} {a : Act} {w : World} {M : Mp} {q : Nat}, R.Rel σ ops tm nt ds M0 H0 w0 l a w M q → l.size = ops.size → Region.ready .any ops l = [] → Q .normal a w := by
    intro l a w M q h hsz hr
    refine hQ l a w M q h fun j hj => ?_
    cases hd : dn l j with
    | true => rfl
    | false =>
      obtain ⟨i, o, ho, hi, hall⟩ := ok.perm (dn l) ⟨j, hj, hd⟩
      have hlt := (Array.getElem?_eq_some_iff.1 ho).1
      have : i ∈ Region.ready .any ops l := mem_ready.2 ⟨by
        unfold dn at hi
        rw [← hsz] at hlt
        simp [hlt] at hi ⊢; exact hi, o, ho, fun e he hb => hall e he hb⟩
      rw [hr] at this; cases this
  induction fuel with
  | zero =>
    intro l a w M q hsz hl h
    have hd := left_zero (Nat.le_zero.1 hl)
    refine ⟨?_, hQ l a w M q h hd⟩
    refine List.eq_nil_iff_forall_not_mem.2 fun j hj => ?_
    obtain ⟨h1, h2, -⟩ := h.ready ok hj
    rw [hd j (by omega)] at h1; cases h1
  | succ fuel ih =>
    intro l a w M q hsz hl h
    refine ⟨hnone h hsz, fun j hj => ?_⟩
    obtain ⟨h1, h2, -⟩ := h.ready ok hj
    refine wpOpIn_mono ?_ (RD.step rd hcall ok htm h hj)
    rintro a' w' ⟨M', q', h'⟩
    refine ih (by simp [hsz]) ?_ h'
    have := left_set h2 h1 ops.size
    rw [if_pos (by omega)] at this
    omega
end
end Go.Proofs.Ytdhdaknfmpfegaa.Ev
end
