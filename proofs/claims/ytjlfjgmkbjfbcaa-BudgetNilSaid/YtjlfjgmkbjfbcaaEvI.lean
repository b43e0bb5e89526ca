/-
  A checked evaluator, part I: statements, loops, calls.
-/
import Derived.Test.YtjlfjgmkbjfbcaaEvH
import Derived.LoopN
import Derived.Tactics
set_option linter.unusedVariables false
set_option linter.unusedSimpArgs false
namespace Go.Proofs.Ytjlfjgmkbjfbcaa.Ev
open Go Go.RowKit

/-- the state of a function's body: its temporaries, the heap, the next block's number -/
structure St where
  tm : Tr (Nat × Value)
  H : Tr Blk
  nx : Nat
def evO (tm : Tr (Nat × Value)) : Operand → Option Value
  | .tmp t => match tm.get (key t) with
    | some (t', x) => match Nat.beq t t' with | true => some x | false => none
    | none => none
  | .const v => match clean v with | true => some v | false => none
  | .func f => some (.func (.func f) #[] #[])
  | .global _ => none
def putE (nt : Nat) (tm : Tr (Nat × Value)) (dst : Option Tmp) (v : Value) : Option (Tr (Nat × Value)) :=
  match dst with
  | none => some tm
  | some d => match Nat.blt d nt with | true => some (tm.set (key d) (d, v)) | false => none
/-- does an operation come about? -/
def wantR (ops : List Oper) (ρ : Operand → Option Value) (o : Oper) : Option Bool :=
  match o.guard with
  | none => some true
  | some (j, want) => match ops[j]? with
    | some oj => match oj.dst with
      | some d => match ρ (.tmp d) with
        | some (.bool b) => some (match b, want with | true, true => true | false, false => true | _, _ => false)
        | some v => match clean v with | true => some false | false => none
        | none => none
      | none => some false
    | none => some false
def wantE (ops : List Oper) (tm : Tr (Nat × Value)) (o : Oper) : Option Bool := wantR ops (evO tm) o
abbrev CallE := FuncId → List Value → Tr Blk → Nat → Option (Value × Tr Blk × Nat)
def stepE (P : Program) (call : CallE) (nt : Nat) (ops : List Oper) (o : Oper) (st : St) : Option St :=
  match wantE ops st.tm o with
  | some false => match putE nt st.tm o.dst undef with
    | some tm => some ⟨tm, st.H, st.nx⟩
    | none => none
  | some true => match evOp P o (evO st.tm) st.H st.nx with
    | some (.pure v) => match putE nt st.tm o.dst v with
      | some tm => some ⟨tm, st.H, st.nx⟩
      | none => none
    | some (.new t xs mk) => match st.H.get (key st.nx) with
      | none => match putE nt st.tm o.dst (mk st.nx) with
        | some tm => some ⟨tm, st.H.set (key st.nx) (.cells t xs), st.nx + 1⟩
        | none => none
      | some _ => none
    | some (.upd v H nx) => match putE nt st.tm o.dst v with
      | some tm => some ⟨tm, H, nx⟩
      | none => none
    | some (.call f args) => match call f args st.H st.nx with
      | some (v, H, nx) => match putE nt st.tm o.dst v with
        | some tm => some ⟨tm, H, nx⟩
        | none => none
      | none => none
    | none => none
  | none => none
def stepsE (P : Program) (call : CallE) (nt : Nat) (ops : List Oper) : List Oper → St → Option St
  | [], st => some st
  | o :: l, st => match stepE P call nt ops o st with
    | some st => stepsE P call nt ops l st
    | none => none
inductive Ex where
  | normal | ret | exit (id : Nat)
def Ex.to : Ex → Exit
  | .normal => .normal
  | .ret => .ret
  | .exit id => .exit id
def loopE (f : St → Option (Ex × St)) : Nat → St → Option (Ex × St)
  | 0, _ => none
  | n + 1, st => match f st with
    | some (.normal, st) => loopE f n st
    | r => r
/-- what a drawn region comes to -/
abbrev DrawE := Nat → List Oper → St → Option St
def execE (P : Program) (call : CallE) (draw : DrawE) (nt L : Nat) : Code → St → Option (Ex × St)
  | .skip, st => some (.normal, st)
  | .label _, st => some (.normal, st)
  | .region _ ops d, st => match d with
    | false => match stepsE P call nt ops.toList ops.toList st with
      | some st => some (.normal, st)
      | none => none
    | true => match draw nt ops.toList st with
      | some st => some (.normal, st)
      | none => none
  | .seq a b, st => match execE P call draw nt L a st with
    | some (.normal, st) => execE P call draw nt L b st
    | r => r
  | .cond c a b, st => match evO st.tm c with
    | some (.bool true) => execE P call draw nt L a st
    | some (.bool false) => execE P call draw nt L b st
    | _ => none
  | .block id a, st => match execE P call draw nt L a st with
    | some (.exit id', st) => match Nat.beq id' id with
      | true => some (.normal, st)
      | false => some (.exit id', st)
    | r => r
  | .loop a, st => loopE (execE P call draw nt L a) L st
  | .exit id, st => some (.exit id, st)
  | .ret, st => some (.ret, st)
  | _, _ => none
def resE (P : Program) (st : St) : List ResultVar → Option (List Value)
  | [] => some []
  | r :: rs => match (match r with
      | .tmp t => evO st.tm (.tmp t)
      | .cell a t => match evO st.tm (.tmp a) with
        | some (.pointer (some ⟨i, o, none⟩)) => loadE P t st.H i o
        | _ => none), resE P st rs with
    | some v, some vs => some (v :: vs)
    | _, _ => none
def oneE : List Value → Value
  | [v] => v
  | vs => .tuple ⟨vs⟩
def argsE : List Value → Nat → Tr (Nat × Value) → Tr (Nat × Value)
  | [], _, tm => tm
  | v :: vs, i, tm => argsE vs (i + 1) (tm.set (key i) (i, v))
def callE (P : Program) (draw : CallE → DrawE) (L : Nat) : Nat → CallE
  | 0, _, _, _, _ => none
  | n + 1, f, args, H, nx => match P.funcs[f]? with
    | some fn => match fn.body with
      | some c => match execE P (callE P draw L n) (draw (callE P draw L n)) (args.length + (fn.ntmps - args.length)) L c ⟨argsE args 0 .leaf, H, nx⟩ with
        | some (.exit _, _) => none
        | some (_, st) => match resE P st fn.results.toList with
          | some vs => some (oneE vs, st.H, st.nx)
          | none => none
        | none => none
      | none => none
    | none => none

section
variable {P : Program} {M M' : Mp} {σ : Nat → Value} {w : World}
/-- the temporaries stand for those of the model -/
def TR (M : Mp) (σ : Nat → Value) (nt : Nat) (tm : Tr (Nat × Value)) (a : Act) : Prop :=
  a.tmps.size = nt ∧ ∀ k t x, tm.get k = some (t, x) → k = key t ∧ t < nt ∧ VR M σ x (a.tmps.getD t undef)
structure SR (M : Mp) (σ : Nat → Value) (nt : Nat) (ds : List Deferred) (st : St) (a : Act) (w : World) : Prop where
  tm : TR M σ nt st.tm a
  hp : HR M σ st.H.get w
  df : a.defers = ds
theorem TR.mono {nt : Nat} {tm : Tr (Nat × Value)} {a : Act} (hl : Le M M') (h : TR M σ nt tm a) : TR M' σ nt tm a :=
  ⟨h.1, fun k t x e => let ⟨h1, h2, h3⟩ := h.2 k t x e; ⟨h1, h2, h3.mono hl⟩⟩
theorem TR.opd {nt : Nat} {tm : Tr (Nat × Value)} {a : Act} (h : TR M σ nt tm a) : Opd M σ (evO tm) a.eval := by
  intro x y e
  cases x with
  | tmp t =>
    simp only [evO] at e
    split at e
    · rename_i t' x' ht
      split at e
      · rename_i hb
        cases e
        have := Nat.eq_of_beq_eq_true hb
        subst this
        exact (h.2 _ _ _ ht).2.2
      · cases e
    · cases e
  | const v =>
    simp only [evO] at e
    split at e
    · rename_i hc; cases e; exact VR.of_clean _ hc
    · cases e
  | func f => simp only [evO] at e; cases e; exact .func f .nil .nil
  | global g => simp [evO] at e
theorem TR.put {nt : Nat} {tm tm' : Tr (Nat × Value)} {a : Act} (h : TR M σ nt tm a) {dst : Option Tmp} {x v : Value} (hr : VR M σ x v) (e : putE nt tm dst x = some tm') : TR M σ nt tm' (a.put dst v) := by
  unfold putE at e
  split at e
  · cases e; exact h
  · rename_i d
    split at e
    · rename_i hd
      cases e
      have hd := blt_lt hd
      refine ⟨by simp [Act.put, h.1], fun k t y hk => ?_⟩
      rw [Tr.get_set] at hk
      split at hk
      · rename_i hkk
        cases hk
        refine ⟨hkk, hd, ?_⟩
        simpa [Act.put, Array.getD, h.1, hd] using hr
      · rename_i hkk
        obtain ⟨h1, h2, h3⟩ := h.2 _ _ _ hk
        refine ⟨h1, h2, ?_⟩
        have hne : d ≠ t := by rintro rfl; exact hkk h1
        simpa [Act.put, Array.getD_eq_getD_getElem?, Array.getElem?_setIfInBounds_ne hne] using h3
    · cases e
theorem wantR_ok {ops : List Oper} {opa : Array Oper} (hops : opa.toList = ops) {ρ : Operand → Option Value} {a : Act} (h : Opd M σ ρ a.eval) (hlt : ∀ d x, ρ (.tmp d) = some x → d < a.tmps.size) {o : Oper} {b : Bool} (e : wantR ops ρ o = some b) : Region.wanted o (yielded opa a.tmps) = b := by
  unfold wantR at e
  split at e
  · rename_i hg; cases e; simp [Region.wanted, hg]
  · rename_i j want hg
    have hget : ∀ k : Nat, opa[k]? = ops[k]? := fun k => by rw [← hops]; simp
    split at e
    · rename_i oj hj
      split at e
      · rename_i d hd
        split at e
        · rename_i b' hb
          have hr := (h _ _ hb).eq_of_clean rfl
          have hl := hlt _ _ hb
          have hx : a.tmps[d]? = some a.tmps[d] := by simp [hl]
          have hx' : a.tmps[d] = .bool b' := by simpa [Act.eval, Array.getD_eq_getD_getElem?, hx] using hr
          cases e
          cases b' <;> cases want <;> simp [Region.wanted, hg, yielded, hget, hj, hd, hx, hx']
        · rename_i v hv hne
          split at e
          · rename_i hc
            cases e
            have hr := (h _ _ hne).eq_of_clean hc
            simp only [Region.wanted, hg, yielded, hget, hj, hd, Option.bind_some]
            cases hx : a.tmps[d]? with
            | none => rfl
            | some x =>
              have hx' : x = v := by simpa [Act.eval, Array.getD_eq_getD_getElem?, hx] using hr
              subst hx'
              cases x <;> first | rfl | (exact absurd rfl (hv _))
          · cases e
        · cases e
      · rename_i hd
        cases e
        simp [Region.wanted, hg, yielded, hget, hj, hd]
    · rename_i hj
      cases e
      simp [Region.wanted, hg, yielded, hget, hj]
theorem TR.lt {nt : Nat} {tm : Tr (Nat × Value)} {a : Act} (h : TR M σ nt tm a) (d : Nat) (x : Value) (e : evO tm (.tmp d) = some x) : d < a.tmps.size := by
  simp only [evO] at e
  split at e
  · rename_i t' x' ht
    split at e
    · rename_i hbb
      have := Nat.eq_of_beq_eq_true hbb
      subst this
      rw [h.1]
      exact (h.2 _ _ _ ht).2.1
    · cases e
  · cases e
theorem wantE_ok {nt : Nat} {ops : List Oper} {opa : Array Oper} (hops : opa.toList = ops) {tm : Tr (Nat × Value)} {a : Act} (h : TR M σ nt tm a) {o : Oper} {b : Bool} (e : wantE ops tm o = some b) : Region.wanted o (yielded opa a.tmps) = b :=
  wantR_ok hops h.opd h.lt e
/-- the callee does what is said of it -/
def CallOK (P : Program) (σ : Nat → Value) (call : CallE) : Prop :=
  ∀ f args H nx v H' nx', call f args H nx = some (v, H', nx') → ∀ M w vs, HR M σ H.get w → VRs M σ args vs →
    Calls P f vs.toArray w fun e w' => ∃ u M', e = .returned u ∧ VR M' σ v u ∧ HR M' σ H'.get w' ∧ Stp M H.get w M' H'.get w'
theorem stepE_ok {call : CallE} (hcall : CallOK P σ call) {nt : Nat} {ds : List Deferred} {opa : Array Oper} {ops : List Oper} (hops : opa.toList = ops) {o : Oper} {st st' : St} (e : stepE P call nt ops o st = some st') {a : Act} (h : SR M σ nt ds st a w)
    {K : Act → World → Prop} {Q : Exit → Act → World → Prop} (hK : ∀ M' a' w', SR M' σ nt ds st' a' w' → Stp M st.H.get w M' st'.H.get w' → K a' w') :
    if Region.wanted o (yielded opa a.tmps) = true then o.wp P a w K Q else K (a.put o.dst undef) w := by
  unfold stepE at e
  have hput : ∀ {M'} {x v : Value} {tm'} {w'}, Le M M' → VR M' σ x v → putE nt st.tm o.dst x = some tm' → ∀ {H nx}, HR M' σ H.get w' → SR M' σ nt ds ⟨tm', H, nx⟩ (a.put o.dst v) w' := fun {M'} {x v} {tm'} {w'} hl hr hp {H nx} hH =>
    ⟨(h.tm.mono hl).put hr hp, hH, by cases o.dst <;> exact h.df⟩
  split at e
  · rename_i hw
    rw [wantE_ok hops h.tm hw]
    split at e
    · rename_i tm hp
      cases e
      simp only [Bool.false_eq_true, if_false]
      exact hK M _ _ (hput (Le.refl _) undef_vr hp h.hp) (Stp.refl _ _ _)
    · cases e
  · rename_i hw
    rw [wantE_ok hops h.tm hw]
    simp only [if_true]
    unfold Oper.wp
    split at e
    · rename_i v hv
      obtain ⟨u, hr, hvr⟩ := evOp_ok (P := P) h.hp h.tm.opd hv
      split at e
      · rename_i tm hp
        cases e
        have := hK M _ _ (hput (Le.refl _) hvr hp h.hp) (Stp.refl _ _ _)
        rcases hr with hr | ⟨hr, rfl⟩ <;> rw [hr] <;> exact this
      · cases e
    · rename_i t xs mk hv
      obtain ⟨vs, u, hr, hvs, hmk⟩ := evOp_ok (P := P) h.hp h.tm.opd hv
      split at e
      · rename_i hfresh
        split at e
        · rename_i tm hp
          cases e
          have hM := h.hp.unplaced hfresh
          have hn := h.hp.new hM t hvs
          have hs := (Stp.refl M st.H.get w).alloc hM hfresh (.cells t xs) vs.length (.cells vs.toArray t)
          rw [hr]
          refine hK _ _ _ (hput hs.le (hmk _ _ (ins_same _ _ _)) hp (by rw [Tr.get_upd]; exact hn)) (by rw [Tr.get_upd]; exact hs)
        · cases e
      · cases e
    · rename_i v H nx hv
      obtain ⟨u, M', w', hr, hvr, hH, hs⟩ := evOp_ok (P := P) h.hp h.tm.opd hv
      split at e
      · rename_i tm hp
        cases e
        have := hK M' _ _ (hput hs.le hvr hp hH) hs
        rcases hr with hr | ⟨hr, rfl⟩ <;> rw [hr] <;> exact this
      · cases e
    · rename_i f args hv
      obtain ⟨vs, hr, hvs⟩ := evOp_ok (P := P) h.hp h.tm.opd hv
      split at e
      · rename_i v H nx hc
        split at e
        · rename_i tm hp
          cases e
          rw [hr]
          refine (hcall _ _ _ _ _ _ _ hc M w vs h.hp hvs).mono ?_
          rintro en w' ⟨u, M', rfl, hvr, hH, hs⟩
          exact hK M' _ _ (hput hs.le hvr hp hH) hs
        · cases e
      · cases e
    · cases e
  · cases e
theorem stepsE_ok {call : CallE} (hcall : CallOK P σ call) {nt : Nat} {ds : List Deferred} {opa : Array Oper} {ops : List Oper} (hops : opa.toList = ops) {Q : Exit → Act → World → Prop} : ∀ (l : List Oper) {M : Mp} {w : World} {st st' : St} {a : Act},
    stepsE P call nt ops l st = some st' → SR M σ nt ds st a w → (∀ M' a' w', SR M' σ nt ds st' a' w' → Stp M st.H.get w M' st'.H.get w' → Q .normal a' w') → wpList P opa Q l a w
  | [], M, w, st, st', a, e, h, hQ => by
    simp [stepsE] at e; subst e
    exact hQ M a w h (Stp.refl _ _ _)
  | o :: l, M, w, st, st', a, e, h, hQ => by
    simp only [stepsE] at e
    split at e
    · rename_i st1 h1
      refine wpList_step fun K hK => stepE_ok hcall hops h1 h fun M' a' w' h' hs => hK _ _ ?_
      exact stepsE_ok hcall hops l e h' fun M2 a2 w2 h2 hs2 => hQ M2 a2 w2 h2 (hs.trans hs2)
    · cases e
/-- a drawn region does what is said of it -/
def DrawOK (P : Program) (σ : Nat → Value) (draw : DrawE) : Prop :=
  ∀ nt id (ops : Array Oper) st st', draw nt ops.toList st = some st' → ∀ M ds a w, SR M σ nt ds st a w → ∀ Q : Exit → Act → World → Prop,
    (∀ M' a' w', SR M' σ nt ds st' a' w' → Stp M st.H.get w M' st'.H.get w' → Q .normal a' w') → (Code.region id ops true).wp P Q a w
theorem execE_ok {call : CallE} (hcall : CallOK P σ call) {draw : DrawE} (hdraw : DrawOK P σ draw) {nt L : Nat} {ds : List Deferred} : ∀ (c : Code) {M : Mp} {w : World} {st : St} {a : Act} {ex : Ex} {st' : St},
    execE P call draw nt L c st = some (ex, st') → SR M σ nt ds st a w → ∀ Q : Exit → Act → World → Prop, (∀ M' a' w', SR M' σ nt ds st' a' w' → Stp M st.H.get w M' st'.H.get w' → Q ex.to a' w') → c.wp P Q a w := by
  intro c
  induction c with
  | skip => intro M w st a ex st' e h Q hQ; simp [execE] at e; obtain ⟨rfl, rfl⟩ := e; exact wp_skip (hQ M a w h (Stp.refl _ _ _))
  | label l => intro M w st a ex st' e h Q hQ; simp [execE] at e; obtain ⟨rfl, rfl⟩ := e; exact wp_label (hQ M a w h (Stp.refl _ _ _))
  | exit id => intro M w st a ex st' e h Q hQ; simp [execE] at e; obtain ⟨rfl, rfl⟩ := e; exact wp_exit (hQ M a w h (Stp.refl _ _ _))
  | ret => intro M w st a ex st' e h Q hQ; simp [execE] at e; obtain ⟨rfl, rfl⟩ := e; exact wp_ret (hQ M a w h (Stp.refl _ _ _))
  | region id ops d =>
    intro M w st a ex st' e h Q hQ
    cases d with
    | false =>
      simp only [execE] at e
      split at e
      · rename_i st1 h1; cases e
        exact wp_region_list (stepsE_ok hcall rfl _ h1 h hQ)
      · cases e
    | true =>
      simp only [execE] at e
      split at e
      · rename_i st1 h1; cases e
        exact hdraw _ _ _ _ _ h1 _ _ _ _ h Q hQ
      · cases e
  | seq x y ihx ihy =>
    intro M w st a ex st' e h Q hQ
    simp only [execE] at e
    refine wp_seq ?_
    split at e
    · rename_i st1 h1
      exact ihx h1 h _ fun M1 a1 w1 hs1 s1 => ihy e hs1 Q fun M2 a2 w2 hs2 s2 => hQ M2 a2 w2 hs2 (s1.trans s2)
    · rename_i r hne
      · refine ihx e h _ fun M1 a1 w1 hs1 s1 => ?_
        cases ex with
        | normal => exact absurd e (hne _)
        | ret => exact hQ M1 a1 w1 hs1 s1
        | exit id => exact hQ M1 a1 w1 hs1 s1
  | cond c x y ihx ihy =>
    intro M w st a ex st' e h Q hQ
    simp only [execE] at e
    split at e
    · rename_i hc
      exact wp_cond_true ((h.tm.opd _ _ hc).eq_of_clean rfl) (ihx e h Q hQ)
    · rename_i hc
      exact wp_cond_false ((h.tm.opd _ _ hc).eq_of_clean rfl) (ihy e h Q hQ)
    · cases e
  | block id x ih =>
    intro M w st a ex st' e h Q hQ
    simp only [execE] at e
    refine wp_block ?_
    split at e
    · rename_i id' st1 h1
      refine ih h1 h _ fun M1 a1 w1 hs1 s1 => ?_
      split at e
      · rename_i hb
        cases e
        have := Nat.eq_of_beq_eq_true hb
        subst this
        simpa [Ex.to, Exit.inBlock] using hQ M1 a1 w1 hs1 s1
      · rename_i hb
        cases e
        have hne : ¬ id' = id := fun he => by subst he; simp at hb
        simpa [Ex.to, Exit.inBlock, hne] using hQ M1 a1 w1 hs1 s1
    · rename_i r hne
      · refine ih e h _ fun M1 a1 w1 hs1 s1 => ?_
        cases ex with
        | normal => exact hQ M1 a1 w1 hs1 s1
        | ret => exact hQ M1 a1 w1 hs1 s1
        | exit id' => exact absurd e (hne _ _)
  | loop x ih =>
    intro M w st a ex st' e h Q hQ
    simp only [execE] at e
    refine wp_loop_rounds L ?_
    suffices hn : ∀ (n : Nat) {M : Mp} {w : World} {st : St} {a : Act}, loopE (execE P call draw nt L x) n st = some (ex, st') → SR M σ nt ds st a w →
        (∀ M' a' w', SR M' σ nt ds st' a' w' → Stp M st.H.get w M' st'.H.get w' → Q ex.to a' w') → Code.rounds P x Q n a w from hn L e h hQ
    clear e h hQ
    intro n
    induction n with
    | zero => intro M w st a e; simp [loopE] at e
    | succ n ihn =>
      intro M w st a e h hQ
      simp only [loopE] at e
      rw [rounds_succ]
      split at e
      · rename_i st1 h1
        exact ih h1 h _ fun M1 a1 w1 hs1 s1 => ihn e hs1 fun M2 a2 w2 hs2 s2 => hQ M2 a2 w2 hs2 (s1.trans s2)
      · rename_i r hne
        · refine ih e h _ fun M1 a1 w1 hs1 s1 => ?_
          cases ex with
          | normal => exact absurd e (hne _)
          | ret => exact hQ M1 a1 w1 hs1 s1
          | exit id => exact hQ M1 a1 w1 hs1 s1
  | rangeFunc f ps asg b _ _ => intro M w st a ex st' e; simp [execE] at e
  | scope b _ => intro M w st a ex st' e; simp [execE] at e
  | goto l => intro M w st a ex st' e; simp [execE] at e
  | refuse s => intro M w st a ex st' e; simp [execE] at e
theorem argsE_tr : ∀ {xs vs : List Value} {pre : List Value} {i : Nat} {tm : Tr (Nat × Value)} {nt : Nat} {ts : Array Value}, VRs M σ xs vs → ts.size = nt → i = pre.length → (∃ rest, ts.toList = pre ++ vs ++ rest) →
    (∀ k t x, tm.get k = some (t, x) → k = key t ∧ t < nt ∧ VR M σ x (ts.getD t undef)) → ∀ k t x, (argsE xs i tm).get k = some (t, x) → k = key t ∧ t < nt ∧ VR M σ x (ts.getD t undef)
  | [], _, pre, i, tm, nt, ts, .nil, _, _, _, h => h
  | x :: xs, _, pre, i, tm, nt, ts, .cons (v := v) (vs := vs) hr hrs, hs, hi, ⟨rest, hrest⟩, h => by
    simp only [argsE]
    have hv : ts.toList[i]? = some v := by rw [hrest, hi]; simp
    have hlt : i < nt := by
      have := (List.getElem?_eq_some_iff.1 hv).1
      simp at this; omega
    refine argsE_tr (pre := pre ++ [v]) hrs hs (by simp [hi]) ⟨rest, by rw [hrest]; simp⟩ fun k t y hk => ?_
    rw [Tr.get_set] at hk
    split at hk
    · rename_i hkk
      cases hk
      refine ⟨hkk, hlt, ?_⟩
      have hv' : ts[i]? = some v := by simpa using hv
      simpa [Array.getD_eq_getD_getElem?, hv'] using hr
    · exact h k t y hk
theorem resE_run {nt : Nat} {ds : List Deferred} {st : St} {a : Act} (hst : SR M σ nt ds st a w) {g : ResultVar → Sem Value} (g1 : ∀ t, g (.tmp t) = pure (a.tmps.getD t undef)) (g2 : ∀ c t, g (.cell c t) = (do loadVar t (← asAddr (a.tmps.getD c undef)))) :
    ∀ {rs : List ResultVar} {vs : List Value}, resE P st rs = some vs → ∃ us, (rs.mapM g).run P w = .ok us w ∧ VRs M σ vs us
  | [], vs, e => by simp [resE] at e; subst e; exact ⟨[], by simp, .nil⟩
  | r :: rs, vs, e => by
    simp only [resE] at e
    split at e
    · rename_i v vs' hv hvs
      cases e
      obtain ⟨us, h1, h2⟩ := resE_run hst g1 g2 hvs
      have : ∃ u, (g r).run P w = .ok u w ∧ VR M σ v u := by
        cases r with
        | tmp t => exact ⟨a.tmps.getD t undef, by rw [g1]; simp, hst.tm.opd _ _ hv⟩
        | cell c t =>
          simp only at hv
          split at hv
          · rename_i i o hp
            have hpr := hst.tm.opd _ _ hp
            simp only [Act.eval] at hpr
            generalize hx : a.tmps.getD c undef = x at hpr
            cases hpr with
            | ptr _ hm =>
              obtain ⟨u, hu, hur⟩ := loadVar_run (P := P) hst.hp hv hm
              exact ⟨u, by rw [g2, hx]; simp [asAddr, hu], hur⟩
          · cases hv
      obtain ⟨u, hu, hur⟩ := this
      refine ⟨u :: us, ?_, .cons hur h2⟩
      simp only [List.mapM_cons, Sem.run_bind, hu, Result.andThen_ok, h1, Sem.run_pure]
    · cases e
theorem callE_ok {draw : CallE → DrawE} (hdraw : ∀ call, CallOK P σ call → DrawOK P σ (draw call)) {L : Nat} : ∀ n, CallOK P σ (callE P draw L n)
  | 0 => fun f args H nx v H' nx' e => by simp [callE] at e
  | n + 1 => fun f args H nx v H' nx' e M w vs hH hvs => by
    have ih := callE_ok hdraw (L := L) n
    simp only [callE] at e
    split at e
    · rename_i fn hfn
      split at e
      · rename_i c hc
        have hlen := hvs.length
        refine calls_of_wp hfn hc ?_
        have hst : SR M σ (args.length + (fn.ntmps - args.length)) [] ⟨argsE args 0 .leaf, H, nx⟩ { tmps := vs.toArray ++ Array.replicate (fn.ntmps - vs.toArray.size) undef, defers := [] } w := by
          refine ⟨⟨by simp [hlen], ?_⟩, hH, rfl⟩
          exact argsE_tr (pre := []) hvs (by simp [hlen]) rfl ⟨List.replicate (fn.ntmps - vs.length) undef, by simp⟩ (fun k t x hk => by rw [Tr.get_leaf] at hk; cases hk)
        split at e
        · cases e
        · rename_i ex st hne hex
          split at e
          · rename_i vs' hres
            cases e
            refine execE_ok ih (hdraw _ ih) c hex hst _ fun M' a' w' hst' hs => ?_
            have ⟨us, hu, hur⟩ := resE_run (P := P) hst' (g := fun | .tmp t => pure (a'.tmps.getD t undef) | .cell c t => do loadVar t (← asAddr (a'.tmps.getD c undef))) (fun _ => rfl) (fun _ _ => rfl) hres
            have hrun : (results fn a'.tmps).run P w' = .ok (oneE us) w' := by
              unfold results
              rw [Array.mapM_eq_mapM_toList, Sem.run_bind, Sem.run_map]
              refine (congrArg (fun x : Result (List Value) => (x.andThen fun a w' => Result.ok a.toArray w').andThen fun (a : Array Value) w' => Sem.run P (pure (if h : a.size = 1 then a[0] else Value.tuple a)) w') ((congrArg (fun (g : ResultVar → Sem Value) => Sem.run P (List.mapM g fn.results.toList) w') (?_ : _ = _)).trans hu)).trans ?_
              · funext r; cases r <;> rfl
              simp only [Result.andThen_ok]
              match us with
              | [] => rfl
              | [u] => rfl
              | u :: u' :: us => rfl
            have hval : VR M' σ (oneE vs') (oneE us) := by
              match vs', us, hur with
              | _, _, .nil => exact .tuple .nil
              | _, _, .cons h .nil => exact h
              | _, _, .cons h (.cons h' h'') => exact .tuple (.cons h (.cons h' h''))
            cases ex with
            | normal => exact ⟨hst'.df, _, hrun, _, M', rfl, hval, hst'.hp, hs⟩
            | ret => exact ⟨hst'.df, _, hrun, _, M', rfl, hval, hst'.hp, hs⟩
            | exit id => exact (hne _ rfl).elim
          · cases e
        · cases e
      · cases e
    · cases e
end
end Go.Proofs.Ytjlfjgmkbjfbcaa.Ev
