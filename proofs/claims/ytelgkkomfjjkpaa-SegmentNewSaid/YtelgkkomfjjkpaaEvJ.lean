/-
  A checked evaluator, part J: functions and rounds.
-/
import Derived.Test.YtelgkkomfjjkpaaEvI
set_option linter.unusedVariables false
set_option linter.unusedSimpArgs false
set_option linter.unusedSectionVars false
namespace Go.Proofs.Ytelgkkomfjjkpaa.Ev
open Go Go.RowKit
variable [Tab]

section
variable {P : Program} {M M' : Mp} {σ : Nat → Value} [TabOK P σ] {w : World}
theorem argsE_tr : ∀ {xs vs : List Value} {pre : List Value} {i : Nat} {tm : Tr (Nat × Value)} {nt : Nat} {ts : Array Value}, VRs M σ xs vs → ts.size = nt → i = pre.length → (∃ rest, ts.toList = pre ++ vs ++ rest) →
    (∀ k t x, tm.get k = some (t, x) → k = key t ∧ t < nt ∧ VR M σ x (ts.getD t undef)) → ∀ k t x, (argsE xs i tm).get k = some (t, x) → k = key t ∧ t < nt ∧ VR M σ x (ts.getD t undef)
  | [], _, pre, i, tm, nt, ts, .nil, _, _, _, h => h
  | x :: xs, _, pre, i, tm, nt, ts, .cons (v := v) (vs := vs) hr hrs, hs, hi, ⟨rest, hrest⟩, h => by
    simp only [argsE]
    have hv : ts.toList[i]? = some v := by rw [hrest, hi]; simp
    have hlt : i < nt := by
      have := (List.getElem?_eq_some_iff.1 hv).1
      simp at this; omega
    refine argsE_tr (pre := pre ++ [v]) hrs hs (by simp [hi]) ⟨rest, by rw [hrest]; simp⟩ fun k t y hk => ?_
    rw [Tr.get_set] at hk
    split at hk
    · rename_i hkk
      cases hk
      refine ⟨hkk, hlt, ?_⟩
      have hv' : ts[i]? = some v := by simpa using hv
      simpa [Array.getD_eq_getD_getElem?, hv'] using hr
    · exact h k t y hk
theorem resE_run {nt : Nat} {st : St} {tmps : Array Value} (htm : TRv M σ nt st.tm tmps) (hhp : HR M σ st.H.get w) {g : ResultVar → Sem Value} (g1 : ∀ t, g (.tmp t) = pure (tmps.getD t undef)) (g2 : ∀ c t, g (.cell c t) = (do loadVar t (← asAddr (tmps.getD c undef)))) :
    ∀ {rs : List ResultVar} {vs : List Value}, resE P st rs = some vs → ∃ us, (rs.mapM g).run P w = .ok us w ∧ VRs M σ vs us
  | [], vs, e => by simp [resE] at e; subst e; exact ⟨[], by simp, .nil⟩
  | r :: rs, vs, e => by
    have hopd : Opd M σ (evO st.tm) ({ tmps := tmps, defers := [] } : Act).eval := TR.opd (a := { tmps := tmps, defers := [] }) htm
    simp only [resE] at e
    split at e
    · rename_i v vs' hv hvs
      cases e
      obtain ⟨us, h1, h2⟩ := resE_run htm hhp g1 g2 hvs
      have : ∃ u, (g r).run P w = .ok u w ∧ VR M σ v u := by
        cases r with
        | tmp t => exact ⟨tmps.getD t undef, by rw [g1]; simp, hopd _ _ hv⟩
        | cell c t =>
          simp only at hv
          split at hv
          · rename_i i o hp
            have hpr := hopd _ _ hp
            simp only [Act.eval] at hpr
            generalize hx : tmps.getD c undef = x at hpr
            cases hpr with
            | ptr _ hm =>
              obtain ⟨u, hu, hur⟩ := loadVar_run (P := P) hhp hv hm
              exact ⟨u, by rw [g2, hx]; simp [asAddr, hu], hur⟩
          · cases hv
      obtain ⟨u, hu, hur⟩ := this
      refine ⟨u :: us, ?_, .cons hur h2⟩
      simp only [List.mapM_cons, Sem.run_bind, hu, Result.andThen_ok, h1, Sem.run_pure]
    · cases e
theorem leaveE_ok {fn : Func} {tmps : Array Value} {R : Ending → World → Prop} : ∀ {l : List Nat} {ds : List Deferred} {H H' : Tr Blk} {w : World}, leaveE l H = some H' → HR M σ H.get w → DR M l ds →
    (∀ w', HR M σ H'.get w' → Stp M H.get w M H'.get w' → ∃ v, (results fn tmps).run P w' = .ok v w' ∧ R (.returned v) w') → LeavesInM Fence.wide 0 P fn tmps R ds .returning w
  | [], _, H, H', w, e, h, .nil, hR => by
    simp [leaveE] at e; subst e
    exact hR w h (Stp.refl _ _ _)
  | i :: l, _, H, H', w, e, h, .mark _ (p := p) (ds := ds) hp hd, hR => by
    simp only [leaveE] at e
    split at e
    · rename_i hg
      have hb : w.heap[p.b]? = some (.deferred (some [])) := h.at hg rfl hp
      obtain ⟨a1, a2⟩ := h.putObj (b := .marks true) hg rfl hp (.deferred none) rfl (put_heap hb)
      refine ⟨by simp, .inl ⟨p.b, _, rfl, ?_, leaveE_ok e (by rw [Tr.get_upd]; exact a1) hd fun w' h' s' => hR w' h' (Stp.trans a2 (by rw [Tr.get_upd] at s'; exact s'))⟩⟩
      simp [Instr.takeDeferred, run_getObj (P := P) hb (by simp), run_setObj (P := P) (o' := .deferred none) hb (by simp)]
    · cases e
theorem paramsE_ok {nt : Nat} : ∀ {ts : List Tmp} {args vs : List Value} {tm tm' : Tr (Nat × Value)} {tmps : Array Value}, paramsE nt ts args tm = some tm' → VRs M σ args vs → TRv M σ nt tm tmps →
    TRv M σ nt tm' ((ts.zip vs).foldl (fun tmps (x : Tmp × Value) => tmps.setIfInBounds x.1 x.2) tmps)
  | [], [], _, tm, tm', tmps, e, .nil, h => by simp [paramsE] at e; subst e; exact h
  | [], _ :: _, _, tm, tm', tmps, e, .cons _ _, h => by simp [paramsE] at e
  | _ :: _, [], _, tm, tm', tmps, e, .nil, h => by simp [paramsE] at e
  | t :: ts, x :: args, _, tm, tm', tmps, e, .cons (v := v) (vs := vs) hr hrs, h => by
    simp only [paramsE] at e
    split at e
    · rename_i hlt
      have hlt := blt_lt hlt
      refine paramsE_ok (tmps := tmps.setIfInBounds t v) e hrs ⟨by simp [h.1], fun k t' y hk => ?_⟩
      rw [Tr.get_set] at hk
      split at hk
      · rename_i hkk
        cases hk
        refine ⟨hkk, hlt, ?_⟩
        have hsz : t < tmps.size := by rw [h.1]; exact hlt
        simpa [Array.getD, hsz] using hr
      · rename_i hkk
        obtain ⟨h1, h2, h3⟩ := h.2 k t' y hk
        have hne : t ≠ t' := by rintro rfl; exact hkk h1
        refine ⟨h1, h2, ?_⟩
        simpa [Array.getD_eq_getD_getElem?, Array.getElem?_setIfInBounds_ne hne] using h3
    · cases e
theorem foldl_zip {β : Type} (f : β → Tmp → Value → β) (ps : Array Tmp) (vs : List Value) (b : β) : (ps.zip vs.toArray).foldl (fun b (x, y) => f b x y) b = (ps.toList.zip vs).foldl (fun b x => f b x.1 x.2) b := by
  rw [← Array.foldl_toList, Array.toList_zip]
theorem roundBeginE_ok {l : Nat} {H H' : Tr Blk} (e : roundBeginE l H = some H') (h : HR M σ H.get w) {p : Place} (hp : M (key l) = some p) :
    ∃ w', (Instr.beginRound p.b).run P w = .ok () w' ∧ HR M σ H'.get w' ∧ Stp M H.get w M H'.get w' := by
  unfold roundBeginE at e
  split at e
  · rename_i pe tm nt ps asg body d hg
    cases e
    obtain ⟨L, h1, h2, h3, h4⟩ := h.at hg rfl hp
    obtain ⟨a1, a2⟩ := h.putObj (b := .loop .busy pe tm nt ps asg body d) hg rfl hp (.loop { L with state := .busy }) rfl ⟨_, put_heap h1, rfl, h3, h4⟩
    refine ⟨_, ?_, by rw [Tr.get_upd]; exact a1, by rw [Tr.get_upd]; exact a2⟩
    simp [Instr.beginRound, run_getLoop h1, run_setObj (P := P) (o' := .loop { L with state := .busy }) h1 (by simp), h2]
  · cases e
theorem roundEndE_ok {l : Nat} {ex : Ex} {H H' : Tr Blk} {v : Value} (e : roundEndE l ex H = some (v, H')) (h : HR M σ H.get w) {p : Place} (hp : M (key l) = some p) :
    ∃ w', (Instr.endRound p.b (match ex with | .normal => none | .ret => some .ret | .exit id => some (.exit id))).run P w = .ok v w' ∧ VR M σ v v ∧ HR M σ H'.get w' ∧ Stp M H.get w M H'.get w' := by
  unfold roundEndE at e
  split at e
  · rename_i s pe tm nt ps asg body d hg
    obtain ⟨L, h1, h2, h3, h4⟩ := h.at hg rfl hp
    have key : ∀ (s' : LoopState) (pe' : Option Code) (L' : Loop), L' = { L with state := s', pending := pe' } → HR M σ (H.set (key l) (.loop s' pe' tm nt ps asg body d)).get { w with heap := w.heap.setIfInBounds p.b (.loop L') } ∧ Stp M H.get w M (H.set (key l) (.loop s' pe' tm nt ps asg body d)).get { w with heap := w.heap.setIfInBounds p.b (.loop L') } := by
      rintro s' pe' L' rfl
      rw [Tr.get_upd]
      exact h.putObj (b := .loop s' pe' tm nt ps asg body d) hg rfl hp (.loop _) rfl ⟨_, put_heap h1, rfl, rfl, h4⟩
    cases ex with
    | normal =>
      cases e
      obtain ⟨k1, k2⟩ := key .ready none _ rfl
      exact ⟨_, by simp [Instr.endRound, run_getLoop h1, run_setObj (P := P) h1], .bool _, k1, k2⟩
    | ret =>
      cases e
      obtain ⟨k1, k2⟩ := key .done (some .ret) _ rfl
      exact ⟨_, by simp [Instr.endRound, run_getLoop h1, run_setObj (P := P) h1], .bool _, k1, k2⟩
    | exit id =>
      cases e
      obtain ⟨k1, k2⟩ := key .done (some (.exit id)) _ rfl
      exact ⟨_, by simp [Instr.endRound, run_getLoop h1, run_setObj (P := P) h1], .bool _, k1, k2⟩
  · cases e
theorem callE_ok {draw : CallE → DrawE} (hdraw : ∀ call, CallOK P σ call → DrawOK P σ (draw call)) {L : Nat} : ∀ n, CallOK P σ (callE P draw L n)
  | 0 => ⟨fun f args H nx v H' nx' e => by simp [callE] at e, fun f args H nx v H' nx' e => by simp [callE] at e⟩
  | n + 1 => by
    have ih := callE_ok hdraw (L := L) n
    refine ⟨fun f args H nx v H' nx' e M w vs hH hvs => ?_, fun l args H nx v H' nx' e M w vs p LL r hH hvs hm hLL => ?_⟩
    · simp only [callE] at e
      split at e
      · rename_i fn hfn
        split at e
        · rename_i c hc
          have hlen := hvs.length
          refine (callsIn_wide (n := 0)).1 (callsIn_of_wp_marks (n := 0) hfn hc trivial ?_)
          have hst : SR M σ (args.length + (fn.ntmps - args.length)) ⟨argsE args 0 .leaf, H, nx, []⟩ { tmps := vs.toArray ++ Array.replicate (fn.ntmps - vs.toArray.size) undef, defers := [] } w := by
            refine ⟨⟨by simp [hlen], ?_⟩, hH, .nil⟩
            exact argsE_tr (pre := []) hvs (by simp [hlen]) rfl ⟨List.replicate (fn.ntmps - vs.length) undef, by simp⟩ (fun k t x hk => by rw [Tr.get_leaf] at hk; cases hk)
          split at e
          · cases e
          · rename_i ex st hne hex
            split at e
            · rename_i Hl hl
              split at e
              · rename_i vs' hres
                cases e
                have key : ∀ M' a' w', SR M' σ (args.length + (fn.ntmps - args.length)) st a' w' → Stp M H.get w M' st.H.get w' →
                    LeavesInM Fence.wide 0 P fn a'.tmps (fun e w' => ∃ u M', e = .returned u ∧ VR M' σ (oneE vs') u ∧ HR M' σ H'.get w' ∧ Stp M H.get w M' H'.get w') a'.defers .returning w' := by
                  intro M' a' w' hst' hs
                  refine leaveE_ok hl hst'.hp hst'.df fun w2 h2 s2 => ?_
                  have ⟨us, hu, hur⟩ := resE_run (P := P) (st := ⟨st.tm, H', st.nx, st.df⟩) hst'.tm h2 (g := fun | .tmp t => pure (a'.tmps.getD t undef) | .cell c t => do loadVar t (← asAddr (a'.tmps.getD c undef))) (fun _ => rfl) (fun _ _ => rfl) hres
                  have hrun : (results fn a'.tmps).run P w2 = .ok (oneE us) w2 := by
                    unfold results
                    rw [Array.mapM_eq_mapM_toList, Sem.run_bind, Sem.run_map]
                    refine (congrArg (fun x : Result (List Value) => (x.andThen fun a w' => Result.ok a.toArray w').andThen fun (a : Array Value) w' => Sem.run P (pure (if h : a.size = 1 then a[0] else Value.tuple a)) w') ((congrArg (fun (g : ResultVar → Sem Value) => Sem.run P (List.mapM g fn.results.toList) w2) (?_ : _ = _)).trans hu)).trans ?_
                    · funext r; cases r <;> rfl
                    simp only [Result.andThen_ok]
                    match us with
                    | [] => rfl
                    | [u] => rfl
                    | u :: u' :: us => rfl
                  have hval : VR M' σ (oneE vs') (oneE us) := by
                    match vs', us, hur with
                    | _, _, .nil => exact .tuple .nil
                    | _, _, .cons h .nil => exact h
                    | _, _, .cons h (.cons h' h'') => exact .tuple (.cons h (.cons h' h''))
                  exact ⟨_, hrun, _, M', rfl, hval, h2, hs.trans s2⟩
                refine execE_ok (r := none) ih (hdraw _ ih) c hex hst .none _ fun M' a' w' hst' hs => ?_
                cases ex with
                | normal => exact key M' a' w' hst' hs
                | ret => exact key M' a' w' hst' hs
                | exit id => exact (hne _ rfl).elim
              · cases e
            · cases e
          · cases e
        · cases e
      · cases e
    · simp only [callE] at e
      split at e
      · rename_i s pe tm nt ps asg body d hg
        obtain ⟨L0, h1, h2, h3, h4, h5, h6, h7, h8⟩ := hH.at hg rfl hm
        rw [hLL] at h1; cases h1
        split at e
        · rename_i tm' hpar
          split at e
          · rename_i st1 hex1
            split at e
            · rename_i H1 hbeg
              split at e
              · rename_i ex st2 hex2
                split at e
                · rename_i v2 H2 hend
                  cases e
                  refine roundIn_of_wpIn (F := FR r) (FR_fn r _) ?_
                  have htm : TRv M σ nt tm' (roundTmps LL vs.toArray) := by
                    unfold roundTmps
                    rw [foldl_zip (fun (tmps : Array Value) t a => tmps.setIfInBounds t a), h5]
                    exact paramsE_ok hpar hvs h4
                  have hst : SR M σ nt ⟨tm', H, nx, []⟩ { tmps := roundTmps LL vs.toArray, defers := [] } w := ⟨htm, hH, .nil⟩
                  rw [h6, h7]
                  refine execE_ok (ro := some l) (r := some p.b) ih (hdraw _ ih) asg hex1 hst (.some hm) _ fun M1 a1 w1 hs1 s1 => ?_
                  have hm1 := s1.le _ _ hm
                  obtain ⟨w2, b1, b2, b3⟩ := roundBeginE_ok (P := P) hbeg hs1.hp hm1
                  refine ⟨w2, b1, ?_⟩
                  have hst2 : SR M1 σ nt ⟨st1.tm, H1, st1.nx, st1.df⟩ a1 w2 := ⟨hs1.tm, b2, hs1.df⟩
                  refine execE_ok (ro := some l) (r := some p.b) ih (hdraw _ ih) body hex2 hst2 (.some hm1) _ fun M2 a2 w3 hs2 s2 => ?_
                  obtain ⟨w4, c1, c2, c3, c4⟩ := roundEndE_ok (P := P) hend hs2.hp (s2.le _ _ hm1)
                  have hfin := ((s1.trans b3).trans s2).trans c4
                  cases ex with
                  | normal => exact ⟨v, w4, c1, v, M2, rfl, c2, c3, hfin⟩
                  | ret => exact ⟨v, w4, c1, v, M2, rfl, c2, c3, hfin⟩
                  | exit id => exact ⟨v, w4, c1, v, M2, rfl, c2, c3, hfin⟩
                · cases e
              · cases e
            · cases e
          · cases e
        · cases e
      · cases e
end
end Go.Proofs.Ytelgkkomfjjkpaa.Ev
