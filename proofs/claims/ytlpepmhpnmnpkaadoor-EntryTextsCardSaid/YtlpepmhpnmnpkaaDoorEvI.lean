/-
  A checked evaluator, part I: statements, loops, calls.
-/
import Derived.Test.YtlpepmhpnmnpkaaDoorEvH
import Derived.LoopNIn
import Derived.TacticsIn
import Derived.RangeFuncLeaves
import Derived.RecoverIn
set_option linter.unusedVariables false
set_option linter.unusedSimpArgs false
set_option linter.unusedSectionVars false
namespace Go.Proofs.YtlpepmhpnmnpkaaDoor.Ev
open Go Go.RowKit
variable [Tab]

/-- what waits until a function leaves: a mark, or a call -/
inductive Df where
  | mark (i : Nat)
  | call (f : FuncId) (args : List Value)
/-- the state of a function's body: its temporaries, the heap, the next block's number -/
structure St where
  tm : Tr (Nat × Value)
  H : Tr Blk
  nx : Nat
  df : List Df
/-- an operand, a target, a guard: what each does, made once -/
structure KX where
  run : Tr (Nat × Value) → Option Value
def opK : Operand → KX
  | .tmp t => ⟨fun tm => match tm.get (key t) with
    | some (t', x) => match Nat.beq t t' with | true => some x | false => none
    | none => none⟩
  | .const v => match clean v with | true => ⟨fun _ => some v⟩ | false => ⟨fun _ => none⟩
  | .func f => ⟨fun _ => some (.func (.func f) #[] #[])⟩
  | .global g => ⟨fun _ => some (.pointer (some ⟨g, 0, some 0⟩))⟩
def evO (tm : Tr (Nat × Value)) (x : Operand) : Option Value := (opK x).run tm
theorem evO_const (tm : Tr (Nat × Value)) (v : Value) : evO tm (.const v) = match clean v with | true => some v | false => none := by
  simp only [evO, opK]
  cases clean v <;> rfl
structure KP where
  run : Tr (Nat × Value) → Value → Option (Tr (Nat × Value))
def putK (nt : Nat) (dst : Option Tmp) : KP :=
  match dst with
  | none => ⟨fun tm _ => some tm⟩
  | some d => match Nat.blt d nt with | true => ⟨fun tm v => some (tm.set (key d) (d, v))⟩ | false => ⟨fun _ _ => none⟩
def putE (nt : Nat) (tm : Tr (Nat × Value)) (dst : Option Tmp) (v : Value) : Option (Tr (Nat × Value)) := (putK nt dst).run tm v
theorem putE_def (nt : Nat) (tm : Tr (Nat × Value)) (dst : Option Tmp) (v : Value) : putE nt tm dst v = match dst with
    | none => some tm
    | some d => match Nat.blt d nt with | true => some (tm.set (key d) (d, v)) | false => none := by
  unfold putE putK
  cases dst with
  | none => rfl
  | some d => simp only; cases Nat.blt d nt <;> rfl
structure KW where
  run : (Operand → Option Value) → Option Bool
def wantK (ops : List Oper) (g : Option (Nat × Bool)) : KW :=
  match g with
  | none => ⟨fun _ => some true⟩
  | some (j, want) => match ops[j]? with
    | some oj => match oj.dst with
      | some d => ⟨fun ρ => match ρ (.tmp d) with
        | some (.bool b) => some (match b, want with | true, true => true | false, false => true | _, _ => false)
        | some v => match clean v with | true => some false | false => none
        | none => none⟩
      | none => ⟨fun _ => some false⟩
    | none => ⟨fun _ => some false⟩
/-- does an operation come about? -/
def wantR (ops : List Oper) (ρ : Operand → Option Value) (o : Oper) : Option Bool := (wantK ops o.guard).run ρ
theorem wantR_def (ops : List Oper) (ρ : Operand → Option Value) (o : Oper) : wantR ops ρ o = match o.guard with
    | none => some true
    | some (j, want) => match ops[j]? with
      | some oj => match oj.dst with
        | some d => match ρ (.tmp d) with
          | some (.bool b) => some (match b, want with | true, true => true | false, false => true | _, _ => false)
          | some v => match clean v with | true => some false | false => none
          | none => none
        | none => some false
      | none => some false := by
  unfold wantR wantK
  cases o.guard with
  | none => rfl
  | some x =>
    obtain ⟨j, want⟩ := x
    simp only
    cases ops[j]? with
    | none => rfl
    | some oj => simp only; cases oj.dst <;> rfl
def wantE (ops : List Oper) (tm : Tr (Nat × Value)) (o : Oper) : Option Bool := wantR ops (evO tm) o
abbrev CallE := Tg → List Value → Tr Blk → Nat → Option (Value × Tr Blk × Nat)
/-- a call is put off -/
def deferE0 (P : Program) (ro : Option Nat) (ρ : Operand → Option Value) : Op → Option Df
  | .defer c => match ro, c.callee with
    | none, .value g => match ρ g, opds ρ c.args.toList with
      | some (.func (.func f) ⟨first⟩ ⟨captured⟩), some args => match bodied P f with
        | true => some (.call f (first ++ args ++ captured))
        | false => none
      | _, _ => none
    | _, _ => none
  | _ => none
def isDefer : Op → Bool
  | .defer _ => true
  | _ => false
def deferE (P : Program) (ro : Option Nat) (ρ : Operand → Option Value) (op : Op) : Option Df :=
  match isDefer op with
  | true => deferE0 P ro ρ op
  | false => none
theorem deferE_some {P : Program} {ro : Option Nat} {ρ : Operand → Option Value} {op : Op} {d : Df} (h : deferE P ro ρ op = some d) : deferE0 P ro ρ op = some d := by
  unfold deferE at h
  split at h
  · exact h
  · cases h
def stepNew (nt : Nat) (o : Oper) (st : St) (b : Blk) (mk : Nat → Value) : Option St :=
  match st.H.get (key st.nx) with
  | none => match putE nt st.tm o.dst (mk st.nx) with
    | some tm => forceN (st.nx + 1) fun n => some ⟨tm, st.H.set (key st.nx) b, n, st.df⟩
    | none => none
  | some _ => none
def stepCall (call : CallE) (nt : Nat) (o : Oper) (st : St) (f : Tg) (args : List Value) : Option St :=
  match call f args st.H st.nx with
  | some (v, H, nx) => match putE nt st.tm o.dst v with
    | some tm => some ⟨tm, H, nx, st.df⟩
    | none => none
  | none => none
def stepUpd (nt : Nat) (o : Oper) (st : St) (v : Value) (H : Tr Blk) (nx : Nat) : Option St :=
  match putE nt st.tm o.dst v with
  | some tm => forceN nx fun n => some ⟨tm, H, n, st.df⟩
  | none => none
def stepPut (nt : Nat) (o : Oper) (st : St) (v : Value) : Option St :=
  match putE nt st.tm o.dst v with
  | some tm => some ⟨tm, st.H, st.nx, st.df⟩
  | none => none
def stepRes (call : CallE) (nt : Nat) (o : Oper) (st : St) (r : Option OpR) : Option St :=
  match r with
  | some (.pure v) => stepPut nt o st v
  | some (.new b mk) => stepNew nt o st b mk
  | some (.upd v H nx) => stepUpd nt o st v H nx
  | some (.call f args) => stepCall call nt o st f args
  | none => none
def stepDefer (nt : Nat) (o : Oper) (st : St) (d : Df) : Option St :=
  match putE nt st.tm o.dst undef with
  | some tm => some ⟨tm, st.H, st.nx, d :: st.df⟩
  | none => none
def stepGo (P : Program) (call : CallE) (ro : Option Nat) (nt : Nat) (o : Oper) (st : St) : Option St :=
  match deferE P ro (evO st.tm) o.op with
  | some d => stepDefer nt o st d
  | none => stepRes call nt o st (evOp P o (evO st.tm) st.H st.nx)
def stepE (P : Program) (call : CallE) (ro : Option Nat) (nt : Nat) (ops : List Oper) (o : Oper) (st : St) : Option St :=
  match wantE ops st.tm o with
  | some false => stepPut nt o st undef
  | some true => stepGo P call ro nt o st
  | none => none
def stepsE (P : Program) (call : CallE) (ro : Option Nat) (nt : Nat) (ops : List Oper) : List Oper → St → Option St
  | [], st => some st
  | o :: l, st => match stepE P call ro nt ops o st with
    | some st => stepsE P call ro nt ops l st
    | none => none
inductive Ex where
  | normal | ret | exit (id : Nat)
def Ex.to : Ex → Exit
  | .normal => .normal
  | .ret => .ret
  | .exit id => .exit id
def loopE (f : St → Option (Ex × St)) : Nat → St → Option (Ex × St)
  | 0, _ => none
  | n + 1, st => match f st with
    | some (.normal, st) => loopE f n st
    | r => r
/-- what a drawn region comes to -/
abbrev DrawE := Nat → List Oper → St → Option St
/-- the value of a loop's yield -/
def yieldV (l : Nat) : Value := .func (.yield l) ⟨[]⟩ ⟨[]⟩
/-- the record of a range over a function is laid: its number, the heap, the next number, the marks -/
def enterE (ro : Option Nat) (nt : Nat) (ps : Array Tmp) (asg body : Code) (st : St) : Option (Nat × St) :=
  match ro with
  | none => match st.H.get (key st.nx) with
    | none => match (st.H.set (key st.nx) (.marks false)).get (key (st.nx + 1)) with
      | none => some (st.nx + 1, ⟨st.tm, (st.H.set (key st.nx) (.marks false)).set (key (st.nx + 1)) (.loop .ready none st.tm nt ps asg body st.nx), st.nx + 2, .mark st.nx :: st.df⟩)
      | some _ => none
    | some _ => none
  | some l => match st.H.get (key l), st.H.get (key st.nx) with
    | some (.loop _ _ _ _ _ _ _ d), none => some (st.nx, ⟨st.tm, st.H.set (key st.nx) (.loop .ready none st.tm nt ps asg body d), st.nx + 1, st.df⟩)
    | _, _ => none
/-- what a range over a function comes to, once the function has come back -/
def endE (l : Nat) (H : Tr Blk) : Option (Ex × Tr Blk) :=
  match H.get (key l) with
  | some (.loop s pe tm nt ps asg body d) => match s with
    | .busy => none
    | _ => match pe with
      | none => some (.normal, H.set (key l) (.loop .exhausted pe tm nt ps asg body d))
      | some .ret => some (.ret, H.set (key l) (.loop .exhausted pe tm nt ps asg body d))
      | some (.exit id) => some (.exit id, H.set (key l) (.loop .exhausted pe tm nt ps asg body d))
      | _ => none
  | _ => none
def execE (P : Program) (call : CallE) (draw : DrawE) (nt L : Nat) (ro : Option Nat) : Code → St → Option (Ex × St)
  | .skip, st => some (.normal, st)
  | .label _, st => some (.normal, st)
  | .region _ ops d, st => match d with
    | false => match stepsE P call ro nt ops.toList ops.toList st with
      | some st => some (.normal, st)
      | none => none
    | true => match draw nt ops.toList st with
      | some st => some (.normal, st)
      | none => none
  | .seq a b, st => match execE P call draw nt L ro a st with
    | some (.normal, st) => execE P call draw nt L ro b st
    | r => r
  | .cond c a b, st => match evO st.tm c with
    | some (.bool true) => execE P call draw nt L ro a st
    | some (.bool false) => execE P call draw nt L ro b st
    | _ => none
  | .block id a, st => match execE P call draw nt L ro a st with
    | some (.exit id', st) => match Nat.beq id' id with
      | true => some (.normal, st)
      | false => some (.exit id', st)
    | r => r
  | .loop a, st => loopE (execE P call draw nt L ro a) L st
  | .rangeFunc g ps asg body, st => match enterE ro nt ps asg body st, evO st.tm g with
    | some (l, st1), some (.func (.func f) ⟨first⟩ ⟨captured⟩) => match bodied P f with
      | true => match call (.fn f) (first ++ [yieldV l] ++ captured) st1.H st1.nx with
        | some (_, H, nx) => match endE l H with
          | some (ex, H) => some (ex, ⟨st1.tm, H, nx, st1.df⟩)
          | none => none
        | none => none
      | false => none
    | _, _ => none
  | .exit id, st => some (.exit id, st)
  | .ret, st => some (.ret, st)
  | _, _ => none
def resE (P : Program) (st : St) : List ResultVar → Option (List Value)
  | [] => some []
  | r :: rs => match (match r with
      | .tmp t => evO st.tm (.tmp t)
      | .cell a t => match evO st.tm (.tmp a) with
        | some (.pointer (some ⟨i, o, none⟩)) => loadE P t st.H i o
        | _ => none), resE P st rs with
    | some v, some vs => some (v :: vs)
    | _, _ => none
def oneE : List Value → Value
  | [v] => v
  | vs => .tuple ⟨vs⟩
def argsE : List Value → Nat → Tr (Nat × Value) → Tr (Nat × Value)
  | [], _, tm => tm
  | v :: vs, i, tm => argsE vs (i + 1) (tm.set (key i) (i, v))
/-- the marks of ranges over functions are struck when a function leaves, and what was put off is called -/
def leaveE (P : Program) (call : CallE) : List Df → Tr Blk → Nat → Option (Tr Blk × Nat)
  | [], H, nx => some (H, nx)
  | .mark i :: l, H, nx => match H.get (key i) with
    | some (.marks false) => leaveE P call l (H.set (key i) (.marks true)) nx
    | _ => none
  | .call f args :: l, H, nx => match bodied P f with
    | true => match call (.dfn f) args H nx with
      | some (_, H, nx) => leaveE P call l H nx
      | none => none
    | false => none
/-- the code of a function that was put off: it may ask 'recover' while nothing panics -/
def isRecover : Op → Bool
  | .call c => match c.callee with
    | .builtin .recover => true
    | _ => false
  | _ => false
def stepS (P : Program) (nt : Nat) (ops : List Oper) (o : Oper) (st : St) : Option St :=
  match wantE ops st.tm o with
  | some false => match putE nt st.tm o.dst undef with
    | some tm => some ⟨tm, st.H, st.nx, st.df⟩
    | none => none
  | some true => match isRecover o.op with
   | true => match putE nt st.tm o.dst .nilIface with
    | some tm => some ⟨tm, st.H, st.nx, st.df⟩
    | none => none
   | false => match evOp P o (evO st.tm) st.H st.nx with
    | some (.pure v) => match putE nt st.tm o.dst v with
      | some tm => some ⟨tm, st.H, st.nx, st.df⟩
      | none => none
    | some (.new b mk) => match st.H.get (key st.nx) with
      | none => match putE nt st.tm o.dst (mk st.nx) with
        | some tm => forceN (st.nx + 1) fun n => some ⟨tm, st.H.set (key st.nx) b, n, st.df⟩
        | none => none
      | some _ => none
    | some (.upd v H nx) => match putE nt st.tm o.dst v with
      | some tm => forceN nx fun n => some ⟨tm, H, n, st.df⟩
      | none => none
    | _ => none
  | none => none
def stepsS (P : Program) (nt : Nat) (ops : List Oper) : List Oper → St → Option St
  | [], st => some st
  | o :: l, st => match stepS P nt ops o st with
    | some st => stepsS P nt ops l st
    | none => none
def execS (P : Program) (call : CallE) (draw : DrawE) (nt L : Nat) : Code → St → Option (Ex × St)
  | .seq a b, st => match execS P call draw nt L a st with
    | some (.normal, st) => execS P call draw nt L b st
    | r => r
  | .cond c a b, st => match evO st.tm c with
    | some (.bool true) => execS P call draw nt L a st
    | some (.bool false) => execS P call draw nt L b st
    | _ => none
  | .region id ops d, st => match d, ops.toList.any (fun o => isRecover o.op) with
    | false, true => match stepsS P nt ops.toList ops.toList st with
      | some st => some (.normal, st)
      | none => none
    | _, _ => execE P call draw nt L none (.region id ops d) st
  | c, st => execE P call draw nt L none c st
def paramsE (nt : Nat) : List Tmp → List Value → Tr (Nat × Value) → Option (Tr (Nat × Value))
  | [], [], tm => some tm
  | t :: ts, v :: vs, tm => match Nat.blt t nt with
    | true => paramsE nt ts vs (tm.set (key t) (t, v))
    | false => none
  | _, _, _ => none
/-- the state of a loop's record behind a round -/
def roundEndE (l : Nat) (ex : Ex) (H : Tr Blk) : Option (Value × Tr Blk) :=
  match H.get (key l) with
  | some (.loop _ _ tm nt ps asg body d) => match ex with
    | .normal => some (.bool true, H.set (key l) (.loop .ready none tm nt ps asg body d))
    | .ret => some (.bool false, H.set (key l) (.loop .done (some .ret) tm nt ps asg body d))
    | .exit id => some (.bool false, H.set (key l) (.loop .done (some (.exit id)) tm nt ps asg body d))
  | _ => none
def roundBeginE (l : Nat) (H : Tr Blk) : Option (Tr Blk) :=
  match H.get (key l) with
  | some (.loop .ready pe tm nt ps asg body d) => some (H.set (key l) (.loop .busy pe tm nt ps asg body d))
  | _ => none
noncomputable def callE (P : Program) (draw : CallE → DrawE) (L : Nat) : Nat → CallE
  | 0, _, _, _, _ => none
  | n + 1, .fn f, args, H, nx => match callF f args Tab.table with
   | some y => some (y, H, nx)
   | none => match stF f args H nx Tab.table with
    | some r => some r
    | none => match P.funcs[f]? with
    | some fn => match fn.body with
      | some c => match execE P (callE P draw L n) (draw (callE P draw L n)) (args.length + (fn.ntmps - args.length)) L none c ⟨argsE args 0 .leaf, H, nx, []⟩ with
        | some (.exit _, _) => none
        | some (_, st) => match leaveE P (callE P draw L n) st.df st.H st.nx with
          | some (H, nx) => match resE P ⟨st.tm, H, nx, st.df⟩ fn.results.toList with
            | some vs => some (oneE vs, H, nx)
            | none => none
          | none => none
        | none => none
      | none => none
    | none => none
  | n + 1, .dfn f, args, H, nx => match P.funcs[f]? with
    | some fn => match fn.body with
      | some c => match execS P (callE P draw L n) (draw (callE P draw L n)) (args.length + (fn.ntmps - args.length)) L c ⟨argsE args 0 .leaf, H, nx, []⟩ with
        | some (.exit _, _) => none
        | some (_, st) => match st.df with
          | [] => match resE P st fn.results.toList with
            | some vs => some (oneE vs, st.H, st.nx)
            | none => none
          | _ => none
        | none => none
      | none => none
    | none => none
  | n + 1, .yield l, args, H, nx => match H.get (key l) with
    | some (.loop _ _ tm nt ps asg body _) => match paramsE nt ps.toList args tm with
      | some tm => match execE P (callE P draw L n) (draw (callE P draw L n)) nt L (some l) asg ⟨tm, H, nx, []⟩ with
        | some (.normal, st) => match roundBeginE l st.H with
          | some H => match execE P (callE P draw L n) (draw (callE P draw L n)) nt L (some l) body ⟨st.tm, H, st.nx, st.df⟩ with
            | some (ex, st) => match roundEndE l ex st.H with
              | some (v, H) => some (v, H, st.nx)
              | none => none
            | none => none
          | none => none
        | _ => none
      | none => none
    | _ => none

section
variable {P : Program} {M M' : Mp} {σ : Nat → Value} [TabOK P σ] {w : World}
/-- the temporaries stand for those of the model -/
def TR (M : Mp) (σ : Nat → Value) (nt : Nat) (tm : Tr (Nat × Value)) (a : Act) : Prop := TRv M σ nt tm a.tmps
/-- the marks -/
inductive DR (M : Mp) (σ : Nat → Value) : List Df → List Deferred → Prop where
  | nil : DR M σ [] []
  | mark (i : Nat) {l : List Df} {ds : List Deferred} {p : Place} (hp : M (key i) = some p) (h : DR M σ l ds) : DR M σ (.mark i :: l) ({ target := .collected p.b, args := #[] } :: ds)
  | call (f : FuncId) {l : List Df} {ds : List Deferred} {xs : List Value} {vs captured : Array Value} (hv : VRs M σ xs (vs.toList ++ captured.toList)) (h : DR M σ l ds) : DR M σ (.call f xs :: l) ({ target := .fn (.func f) captured, args := vs } :: ds)
theorem DR.mono {l : List Df} {ds : List Deferred} (hl : Le M M') (h : DR M σ l ds) : DR M' σ l ds := by
  induction h with
  | nil => exact .nil
  | mark i hp _ ih => exact .mark i (hl _ _ hp) ih
  | call f hv _ ih => exact .call f (hv.mono hl) ih
structure SR (M : Mp) (σ : Nat → Value) (nt : Nat) (st : St) (a : Act) (w : World) : Prop where
  tm : TR M σ nt st.tm a
  hp : HR M σ st.H.get w
  df : DR M σ st.df a.defers
/-- the frame of a function, or of a round -/
def FR (r : Option Nat) : Fence := { Fence.wide with round := r }
theorem FR_fn (r : Option Nat) (f : FuncId) : (FR r).fn f := trivial
theorem FR_depth {r : Option Nat} {n : Nat} (h : (FR r).depth.isSome = true) : 1 ≤ n := by cases h
theorem calls_FR {r : Option Nat} {n : Nat} {f : FuncId} {args : Array Value} {R : Ending → World → Prop} (h : Calls P f args w R) : CallsIn (FR r) n P f args w R :=
  callsIn_wide.2 h
/-- the round that a frame is of -/
inductive RR (M : Mp) : Option Nat → Option Nat → Prop where
  | none : RR M none none
  | some {l : Nat} {p : Place} (h : M (key l) = some p) : RR M (some l) (some p.b)
theorem RR.mono {ro r : Option Nat} (hl : Le M M') (h : RR M ro r) : RR M' ro r := by
  cases h with
  | none => exact .none
  | some h => exact .some (hl _ _ h)
theorem TR.mono {nt : Nat} {tm : Tr (Nat × Value)} {a : Act} (hl : Le M M') (h : TR M σ nt tm a) : TR M' σ nt tm a :=
  ⟨h.1, fun k t x e => let ⟨h1, h2, h3⟩ := h.2 k t x e; ⟨h1, h2, h3.mono hl⟩⟩
theorem TR.opd {nt : Nat} {tm : Tr (Nat × Value)} {a : Act} (h : TR M σ nt tm a) : Opd M σ (evO tm) a.eval := by
  intro x y e
  cases x with
  | tmp t =>
    simp only [evO, opK] at e
    split at e
    · rename_i t' x' ht
      split at e
      · rename_i hb
        cases e
        have := Nat.eq_of_beq_eq_true hb
        subst this
        exact (h.2 _ _ _ ht).2.2
      · cases e
    · cases e
  | const v =>
    rw [evO_const] at e
    split at e
    · rename_i hc; cases e; exact VR.of_clean _ hc
    · cases e
  | func f => simp only [evO, opK] at e; cases e; exact .func f .nil .nil
  | global g => simp only [evO, opK] at e; cases e; exact .abs g 0
theorem TR.put {nt : Nat} {tm tm' : Tr (Nat × Value)} {a : Act} (h : TR M σ nt tm a) {dst : Option Tmp} {x v : Value} (hr : VR M σ x v) (e : putE nt tm dst x = some tm') : TR M σ nt tm' (a.put dst v) := by
  rw [putE_def] at e
  split at e
  · cases e; exact h
  · rename_i d
    split at e
    · rename_i hd
      cases e
      have hd := blt_lt hd
      refine ⟨by simp [Act.put, h.1], fun k t y hk => ?_⟩
      rw [Tr.get_set] at hk
      split at hk
      · rename_i hkk
        cases hk
        refine ⟨hkk, hd, ?_⟩
        simpa [Act.put, Array.getD, h.1, hd] using hr
      · rename_i hkk
        obtain ⟨h1, h2, h3⟩ := h.2 _ _ _ hk
        refine ⟨h1, h2, ?_⟩
        have hne : d ≠ t := by rintro rfl; exact hkk h1
        simpa [Act.put, Array.getD_eq_getD_getElem?, Array.getElem?_setIfInBounds_ne hne] using h3
    · cases e
theorem wantR_ok {ops : List Oper} {opa : Array Oper} (hops : opa.toList = ops) {ρ : Operand → Option Value} {a : Act} (h : Opd M σ ρ a.eval) (hlt : ∀ d x, ρ (.tmp d) = some x → d < a.tmps.size) {o : Oper} {b : Bool} (e : wantR ops ρ o = some b) : Region.wanted o (yielded opa a.tmps) = b := by
  rw [wantR_def] at e
  split at e
  · rename_i hg; cases e; simp [Region.wanted, hg]
  · rename_i j want hg
    have hget : ∀ k : Nat, opa[k]? = ops[k]? := fun k => by rw [← hops]; simp
    split at e
    · rename_i oj hj
      split at e
      · rename_i d hd
        split at e
        · rename_i b' hb
          have hr := (h _ _ hb).eq_of_clean rfl
          have hl := hlt _ _ hb
          have hx : a.tmps[d]? = some a.tmps[d] := by simp [hl]
          have hx' : a.tmps[d] = .bool b' := by simpa [Act.eval, Array.getD_eq_getD_getElem?, hx] using hr
          cases e
          cases b' <;> cases want <;> simp [Region.wanted, hg, yielded, hget, hj, hd, hx, hx']
        · rename_i v hv hne
          split at e
          · rename_i hc
            cases e
            have hr := (h _ _ hne).eq_of_clean hc
            simp only [Region.wanted, hg, yielded, hget, hj, hd, Option.bind_some]
            cases hx : a.tmps[d]? with
            | none => rfl
            | some x =>
              have hx' : x = v := by simpa [Act.eval, Array.getD_eq_getD_getElem?, hx] using hr
              subst hx'
              cases x <;> first | rfl | (exact absurd rfl (hv _))
          · cases e
        · cases e
      · rename_i hd
        cases e
        simp [Region.wanted, hg, yielded, hget, hj, hd]
    · rename_i hj
      cases e
      simp [Region.wanted, hg, yielded, hget, hj]
theorem TR.lt {nt : Nat} {tm : Tr (Nat × Value)} {a : Act} (h : TR M σ nt tm a) (d : Nat) (x : Value) (e : evO tm (.tmp d) = some x) : d < a.tmps.size := by
  simp only [evO, opK] at e
  split at e
  · rename_i t' x' ht
    split at e
    · rename_i hbb
      have := Nat.eq_of_beq_eq_true hbb
      subst this
      rw [h.1]
      exact (h.2 _ _ _ ht).2.1
    · cases e
  · cases e
theorem wantE_ok {nt : Nat} {ops : List Oper} {opa : Array Oper} (hops : opa.toList = ops) {tm : Tr (Nat × Value)} {a : Act} (h : TR M σ nt tm a) {o : Oper} {b : Bool} (e : wantE ops tm o = some b) : Region.wanted o (yielded opa a.tmps) = b :=
  wantR_ok hops h.opd h.lt e
/-- the callee does what is said of it -/
structure CallOK (P : Program) (σ : Nat → Value) (call : CallE) : Prop where
  fn : ∀ f args H nx v H' nx', call (.fn f) args H nx = some (v, H', nx') → ∀ M w vs, HR M σ H.get w → VRs M σ args vs →
    Calls P f vs.toArray w fun e w' => ∃ u M', e = .returned u ∧ VR M' σ v u ∧ HR M' σ H'.get w' ∧ Stp M H.get w M' H'.get w'
  yield : ∀ l args H nx v H' nx', call (.yield l) args H nx = some (v, H', nx') → ∀ M w vs p L r, HR M σ H.get w → VRs M σ args vs → M (key l) = some p → w.heap[p.b]? = some (.loop L) →
    RoundIn (FR r) 0 P p.b L.fn (roundTmps L vs.toArray) L.assign L.body w fun e w' => ∃ u M', e = .returned u ∧ VR M' σ v u ∧ HR M' σ H'.get w' ∧ Stp M H.get w M' H'.get w'
  dfn : ∀ f args H nx v H' nx', call (.dfn f) args H nx = some (v, H', nx') → ∀ M w vs, HR M σ H.get w → VRs M σ args vs →
    CallsDIn Fence.wide 0 P f vs.toArray .returning w fun e u' w' => u' = .returning ∧ ∃ u M', e = .returned u ∧ VR M' σ v u ∧ HR M' σ H'.get w' ∧ Stp M H.get w M' H'.get w'
theorem evOp_nodefer {H : Tr Blk} {o : Oper} {ρ : Operand → Option Value} {nx : Nat} {r : OpR} (h : evOp P o ρ H nx = some r) : ∀ c, o.op ≠ .defer c := by
  intro c e
  simp [evOp, compO, e] at h
/-- an operation that ends so is gone through -/
theorem snd_wp {call : CallE} (hcall : CallOK P σ call) {H : Tr Blk} {o : Oper} {nx : Nat} {x : OpR} {a : Act} {r : Option Nat} (hnd : ∀ c, o.op ≠ .defer c) (hH : HR M σ H.get w) (hs : Snd M σ H w ((execOp a.eval o).run P w) x)
    {K : Act → World → Prop} {Q : Exit → Act → World → Prop}
    (hp : ∀ v u, x = .pure v → VR M σ v u → K (a.put o.dst u) w)
    (hn : ∀ b mk ob n u, x = .new b mk → b.live = true → (∀ M', Le M M' → BR M' σ b ⟨w.heap.size, 0, n⟩ (w.alloc ob)) → (∀ (id : Nat) (M' : Mp), M' (key id) = some ⟨w.heap.size, 0, n⟩ → VR M' σ (mk id) u) → K (a.put o.dst u) (w.alloc ob))
    (hu : ∀ v H' nx' u M' w', x = .upd v H' nx' → VR M' σ v u → HR M' σ H'.get w' → Stp M H.get w M' H'.get w' → K (a.put o.dst u) w')
    (hc : ∀ t args, x = .call t args → ∃ v H' nx', call t args H nx = some (v, H', nx') ∧ ∀ u M' w', VR M' σ v u → HR M' σ H'.get w' → Stp M H.get w M' H'.get w' → K (a.put o.dst u) w') :
    o.wpIn (FR r) 0 P a w K Q := by
  refine ⟨fun f _ => FR_fn r f, ?_⟩
  rw [Oper.semAt_eq _ _ _ hnd]
  cases x with
  | pure v =>
    obtain ⟨u, hr, hvr⟩ := hs
    have := hp v u rfl hvr
    rcases hr with hr | ⟨hr, rfl⟩ <;> rw [hr] <;> exact this
  | new b mk =>
    obtain ⟨hl, ob, n, u, hr, hb, hmk⟩ := hs
    rw [hr]; exact hn b mk ob n u rfl hl hb hmk
  | upd v H' nx' =>
    obtain ⟨u, M', w', hr, hvr, hH', hst⟩ := hs
    have := hu v H' nx' u M' w' rfl hvr hH' hst
    rcases hr with hr | ⟨hr, rfl⟩ <;> rw [hr] <;> exact this
  | call t args =>
    obtain ⟨v, H', nx', hcl, hk⟩ := hc t args rfl
    cases t with
    | fn f =>
      obtain ⟨vs, hr, hvs⟩ := hs
      rw [hr]
      refine ⟨FR_depth, (calls_FR (hcall.fn _ _ _ _ _ _ _ hcl M w vs hH hvs)).mono ?_⟩
      rintro en w' ⟨u, M', rfl, hvr, hH', hst⟩
      exact hk u M' w' hvr hH' hst
    | yield l =>
      obtain ⟨vs, p, L, hm, hL, hr, hvs⟩ := hs
      rw [hr]
      refine ⟨FR_depth, (hcall.yield _ _ _ _ _ _ _ hcl M w vs p L r hH hvs hm hL).mono ?_⟩
      rintro en w' ⟨u, M', rfl, hvr, hH', hst⟩
      exact hk u M' w' hvr hH' hst
    | dfn f => exact hs.elim
theorem deferE_ok {ro r : Option Nat} {o : Oper} {ρ : Operand → Option Value} {a : Act} {d : Df} (e : deferE P ro ρ o.op = some d) (hη : Opd M σ ρ a.eval) (hr : RR M ro r) {K : Act → World → Prop} {Q : Exit → Act → World → Prop}
    (hK : ∀ ds, (∀ l ds', DR M σ l ds' → DR M σ (d :: l) (ds :: ds')) → K ({ a with defers := ds :: a.defers }.put o.dst undef) w) : o.wpIn (FR r) 0 P a w K Q := by
  replace e := deferE_some e
  unfold deferE0 at e
  split at e
  · rename_i c ho
    split at e
    · rename_i g hg
      cases hr
      split at e
      · rename_i f first captured args hf hargs
        split at e
        · rename_i hb
          cases e
          refine ⟨fun f _ => FR_fn _ f, ?_⟩
          have hfr := hη _ _ hf
          have har := opds_vr hη hargs
          generalize hgg : a.eval g = gv at hfr
          cases hfr with
          | func _ h1 h2 =>
            rename_i us vs
            have hrun : (o.semAt (FR none).round a.eval).run P w = .ok (.defer { target := .fn (.func f) ⟨vs⟩, args := ⟨us⟩ ++ c.args.map a.eval }) w := by
              show (o.semAt none a.eval).run P w = _
              simp only [Oper.semAt_none, execOp, ho, resolve, hg, hgg, Deferred.ofValue, Sem.run_bind, Sem.run_pure, Result.andThen_ok]
            rw [hrun]
            exact hK _ fun l ds' hd => .call f (by rw [map_eq]; simpa using (h1.append har).append h2) hd
        · cases e
      · cases e
    · cases e
  · cases e
theorem stepE_ok {call : CallE} (hcall : CallOK P σ call) {nt : Nat} {opa : Array Oper} {ops : List Oper} (hops : opa.toList = ops) {ro r : Option Nat} {o : Oper} {st st' : St} (e : stepE P call ro nt ops o st = some st') {a : Act} (h : SR M σ nt st a w) (hr : RR M ro r)
    {K : Act → World → Prop} {Q : Exit → Act → World → Prop} (hK : ∀ M' a' w', SR M' σ nt st' a' w' → Stp M st.H.get w M' st'.H.get w' → K a' w') :
    if Region.wanted o (yielded opa a.tmps) = true then o.wpIn (FR r) 0 P a w K Q else (∀ f, o.about P w a.eval = some f → (FR r).fn f) ∧ K (a.put o.dst undef) w := by
  unfold stepE stepPut stepGo stepDefer stepRes stepNew stepUpd stepCall stepPut at e
  simp only [forceN_eq] at e
  have hput : ∀ {M'} {x v : Value} {tm'} {w'}, Le M M' → VR M' σ x v → putE nt st.tm o.dst x = some tm' → ∀ {H nx}, HR M' σ H.get w' → SR M' σ nt ⟨tm', H, nx, st.df⟩ (a.put o.dst v) w' := fun {M'} {x v} {tm'} {w'} hl hr hp {H nx} hH =>
    ⟨(h.tm.mono hl).put hr hp, hH, by cases o.dst <;> exact h.df.mono hl⟩
  split at e
  · rename_i hw
    rw [wantE_ok hops h.tm hw]
    split at e
    · rename_i tm hp
      cases e
      simp only [Bool.false_eq_true, if_false]
      exact ⟨fun f _ => FR_fn r f, hK M _ _ (hput (Le.refl _) undef_vr hp h.hp) (Stp.refl _ _ _)⟩
    · cases e
  · rename_i hw
    rw [wantE_ok hops h.tm hw]
    simp only [if_true]
    split at e
    · rename_i d hd
      split at e
      · rename_i tm hp
        cases e
        refine deferE_ok hd h.tm.opd hr fun ds hds => hK M _ _ ⟨?_, h.hp, ?_⟩ (Stp.refl _ _ _)
        · exact TR.put (a := { a with defers := ds :: a.defers }) h.tm undef_vr hp
        · cases o.dst <;> exact hds _ _ h.df
      · cases e
    split at e
    · rename_i v hv
      split at e
      · rename_i tm hp
        cases e
        exact snd_wp hcall (nx := st.nx) (evOp_nodefer hv) h.hp (evOp_ok (P := P) h.hp h.tm.opd hv)
          (fun v' u he hvr => by cases he; exact hK M _ _ (hput (Le.refl _) hvr hp h.hp) (Stp.refl _ _ _)) (fun _ _ _ _ _ he => by cases he) (fun _ _ _ _ _ _ he => by cases he) (fun _ _ he => by cases he)
      · cases e
    · rename_i b mk hv
      split at e
      · rename_i hfresh
        split at e
        · rename_i tm hp
          cases e
          refine snd_wp hcall (nx := st.nx) (evOp_nodefer hv) h.hp (evOp_ok (P := P) h.hp h.tm.opd hv) (fun _ _ he => by cases he) (fun b' mk' ob n u he hbl hbr hmk => ?_) (fun _ _ _ _ _ _ he => by cases he) (fun _ _ he => by cases he)
          cases he
          have hM := h.hp.unplaced hfresh
          have hn := h.hp.make (b := b) (n := n) (o := ob) hM (hbr _ (ins_le hM _))
          have hs := (Stp.refl M st.H.get w).alloc hM hfresh b n ob
          exact hK _ _ _ (hput hs.le (hmk _ _ (ins_same _ _ _)) hp (by rw [Tr.get_upd]; exact hn)) (by rw [Tr.get_upd]; exact hs)
        · cases e
      · cases e
    · rename_i v H nx hv
      split at e
      · rename_i tm hp
        cases e
        refine snd_wp hcall (nx := st.nx) (evOp_nodefer hv) h.hp (evOp_ok (P := P) h.hp h.tm.opd hv) (fun _ _ he => by cases he) (fun _ _ _ _ _ he => by cases he) (fun v' H' nx' u M' w' he hvr hH hs => ?_) (fun _ _ he => by cases he)
        cases he
        exact hK M' _ _ (hput hs.le hvr hp hH) hs
      · cases e
    · rename_i f args hv
      split at e
      · rename_i v H nx hc
        split at e
        · rename_i tm hp
          cases e
          refine snd_wp hcall (nx := st.nx) (evOp_nodefer hv) h.hp (evOp_ok (P := P) h.hp h.tm.opd hv) (fun _ _ he => by cases he) (fun _ _ _ _ _ he => by cases he) (fun _ _ _ _ _ _ he => by cases he) (fun t' args' he => ?_)
          cases he
          exact ⟨v, H, nx, hc, fun u M' w' hvr hH hs => hK M' _ _ (hput hs.le hvr hp hH) hs⟩
        · cases e
      · cases e
    · cases e
  · cases e
theorem stepsE_ok {call : CallE} (hcall : CallOK P σ call) {nt : Nat} {opa : Array Oper} {ops : List Oper} (hops : opa.toList = ops) {ro r : Option Nat} {Q : Exit → Act → World → Prop} : ∀ (l : List Oper) {M : Mp} {w : World} {st st' : St} {a : Act},
    stepsE P call ro nt ops l st = some st' → SR M σ nt st a w → RR M ro r → (∀ M' a' w', SR M' σ nt st' a' w' → Stp M st.H.get w M' st'.H.get w' → Q .normal a' w') → wpListIn (FR r) 0 P opa Q l a w
  | [], M, w, st, st', a, e, h, hr, hQ => by
    simp [stepsE] at e; subst e
    exact hQ M a w h (Stp.refl _ _ _)
  | o :: l, M, w, st, st', a, e, h, hr, hQ => by
    simp only [stepsE] at e
    split at e
    · rename_i st1 h1
      refine wpListIn_step fun K hK => stepE_ok hcall hops h1 h hr fun M' a' w' h' hs => hK _ _ ?_
      exact stepsE_ok hcall hops l e h' (hr.mono hs.le) fun M2 a2 w2 h2 hs2 => hQ M2 a2 w2 h2 (hs.trans hs2)
    · cases e
/-- a drawn region does what is said of it -/
def DrawOK (P : Program) (σ : Nat → Value) (draw : DrawE) : Prop :=
  ∀ nt id (ops : Array Oper) st st', draw nt ops.toList st = some st' → ∀ M a w, SR M σ nt st a w → ∀ (r : Option Nat) (Q : Exit → Act → World → Prop),
    (∀ M' a' w', SR M' σ nt st' a' w' → Stp M st.H.get w M' st'.H.get w' → Q .normal a' w') → (Code.region id ops true).wpIn (FR r) 0 P Q a w
/-- an object that is no row of cells -/
theorem run_getObj {w : World} {b : Nat} {o : Obj} (h : w.heap[b]? = some o) (hc : ∀ c t f, o ≠ .cells c t f) : (getObj b).run P w = .ok o w := by
  cases o <;> first | (exact absurd rfl (hc _ _ _)) | simp [getObj, Sem.run, h]
theorem run_setObj {w : World} {b : Nat} {o o' : Obj} (h : w.heap[b]? = some o) (hc : ∀ c t f, o ≠ .cells c t f) : (setObj b o').run P w = .ok () { w with heap := w.heap.setIfInBounds b o' } := by
  cases o <;> first | (exact absurd rfl (hc _ _ _)) | simp [setObj, Sem.run, h]
theorem run_getLoop {w : World} {b : Nat} {l : Loop} (h : w.heap[b]? = some (.loop l)) : (Instr.getLoop b).run P w = .ok l w := by
  simp only [Instr.getLoop, Sem.run_bind, run_getObj h (by simp), Result.andThen_ok]
  rfl
theorem put_heap {w : World} {b : Nat} {o o' : Obj} (h : w.heap[b]? = some o) : ({ w with heap := w.heap.setIfInBounds b o' } : World).heap[b]? = some o' := by
  have := (Array.getElem?_eq_some_iff.1 h).1
  simp [this]
theorem put_other {w : World} {b : Nat} {o' : Obj} (j : Nat) (hj : j ≠ b) : ({ w with heap := w.heap.setIfInBounds b o' } : World).heap[j]? = w.heap[j]? := by
  simp [Array.getElem?_setIfInBounds_ne (Ne.symm hj)]
/-- an object is put in the place of another one -/
theorem HR.putObj {H : HP} (h : HR M σ H w) {k : Key} {b0 b : Blk} {p : Place} (hg : H k = some b0) (l0 : b0.live = true) (hp : M k = some p) (o' : Obj) (hl : b.live = true) (hb : BR M σ b p { w with heap := w.heap.setIfInBounds p.b o' }) :
    HR M σ (upd H k b) { w with heap := w.heap.setIfInBounds p.b o' } ∧ Stp M H w M (upd H k b) { w with heap := w.heap.setIfInBounds p.b o' } :=
  h.write hg l0 hp (fun j hj => put_other j hj) rfl rfl rfl (by simp) hl hb
theorem enterE_ok {ro r : Option Nat} {nt : Nat} {ps : Array Tmp} {asg body : Code} {st st1 : St} {l : Nat} (e : enterE ro nt ps asg body st = some (l, st1)) {a : Act} (h : SR M σ nt st a w) (hr : RR M ro r) (fn : FuncId) :
    ∃ M1 w1 p mark, (Instr.enterLoop fn a.tmps ps asg body r).run P w = .ok (p.b, mark) w1 ∧ M1 (key l) = some p ∧ st1.tm = st.tm ∧ SR M1 σ nt st1 { a with defers := mark ++ a.defers } w1 ∧ Stp M st.H.get w M1 st1.H.get w1 := by
  unfold enterE at e
  split at e
  · cases hr
    split at e
    · rename_i hf1
      split at e
      · rename_i hf2
        cases e
        have hM1 := h.hp.unplaced hf1
        have hH1 : HR (ins M (key st.nx) ⟨w.heap.size, 0, 0⟩) σ (upd st.H.get (key st.nx) (.marks false)) (w.alloc (.deferred (some []))) := h.hp.make hM1 (heap_new _ _)
        have hS1 := (Stp.refl M st.H.get w).alloc hM1 hf1 (.marks false) 0 (.deferred (some []))
        rw [Tr.get_upd] at hf2
        have hM2 := hH1.unplaced hf2
        have hle2 := ins_le hM2 ⟨(w.alloc (.deferred (some []))).heap.size, 0, 0⟩
        have hH2 := hH1.make (n := 0) (b := .loop .ready none st.tm nt ps asg body st.nx) (o := .loop { state := .ready, pending := none, fn, tmps := a.tmps, params := ps, assign := asg, body, defers := w.heap.size }) hM2
          ⟨_, heap_new _ _, rfl, rfl, (h.tm.mono hS1.le).mono hle2, rfl, rfl, rfl, _, hle2 _ _ (ins_same _ _ _), rfl⟩
        have hS2 := hS1.alloc hM2 (by
          cases hh : st.H.get (key (st.nx + 1)) with
          | none => rfl
          | some b => obtain ⟨b', hb'⟩ := hS1.grow _ _ hh; rw [hf2] at hb'; cases hb') (.loop .ready none st.tm nt ps asg body st.nx) 0 (.loop { state := .ready, pending := none, fn, tmps := a.tmps, params := ps, assign := asg, body, defers := w.heap.size })
        refine ⟨_, (w.alloc (.deferred (some []))).alloc (.loop { state := .ready, pending := none, fn, tmps := a.tmps, params := ps, assign := asg, body, defers := w.heap.size }), ⟨(w.alloc (.deferred (some []))).heap.size, 0, 0⟩, [{ target := .collected w.heap.size, args := #[] }], ?_, ins_same _ _ _, rfl, ⟨h.tm.mono hS2.le, ?_, ?_⟩, ?_⟩
        · simp [Instr.enterLoop]
        · rw [Tr.get_upd, Tr.get_upd]; exact hH2
        · exact .mark st.nx (p := ⟨w.heap.size, 0, 0⟩) (hle2 _ _ (ins_same _ _ _)) (h.df.mono hS2.le)
        · rw [Tr.get_upd, Tr.get_upd]; exact hS2
      · cases e
    · cases e
  · rename_i lo
    cases hr with
    | some hlo =>
      rename_i po
      split at e
      · rename_i s pe tm' nt' ps' asg' body' d hg hf
        cases e
        obtain ⟨L, h1, h2, h3, h4, h5, h6, h7, q, h8, h9⟩ := h.hp.at hg rfl hlo
        have hM1 := h.hp.unplaced hf
        have hle := ins_le hM1 ⟨w.heap.size, 0, 0⟩
        have hH1 := h.hp.make (n := 0) (b := .loop .ready none st.tm nt ps asg body d) (o := .loop { state := .ready, pending := none, fn, tmps := a.tmps, params := ps, assign := asg, body, defers := q.b }) hM1
          ⟨_, heap_new _ _, rfl, rfl, h.tm.mono hle, rfl, rfl, rfl, q, hle _ _ h8, rfl⟩
        have hS1 := (Stp.refl M st.H.get w).alloc hM1 hf (.loop .ready none st.tm nt ps asg body d) 0 (.loop { state := .ready, pending := none, fn, tmps := a.tmps, params := ps, assign := asg, body, defers := q.b })
        refine ⟨_, w.alloc (.loop { state := .ready, pending := none, fn, tmps := a.tmps, params := ps, assign := asg, body, defers := q.b }), ⟨w.heap.size, 0, 0⟩, [], ?_, ins_same _ _ _, rfl, ⟨h.tm.mono hS1.le, ?_, h.df.mono hS1.le⟩, ?_⟩
        · simp [Instr.enterLoop, run_getLoop h1, h9]
        · rw [Tr.get_upd]; exact hH1
        · rw [Tr.get_upd]; exact hS1
      · cases e
theorem endE_ok {l : Nat} {H H' : Tr Blk} {ex : Ex} (e : endE l H = some (ex, H')) (h : HR M σ H.get w) {p : Place} (hp : M (key l) = some p) :
    ∃ pe w', (Instr.endLoop p.b).run P w = .ok pe w' ∧ (pe = match ex with | .normal => none | .ret => some .ret | .exit id => some (.exit id)) ∧ HR M σ H'.get w' ∧ Stp M H.get w M H'.get w' := by
  unfold endE at e
  split at e
  · rename_i s pe tm nt ps asg body d hg
    obtain ⟨L, h1, h2, h3, h4⟩ := h.at hg rfl hp
    have key : s ≠ .busy → ∃ w', (Instr.endLoop p.b).run P w = .ok pe w' ∧ HR M σ (H.set (key l) (.loop .exhausted pe tm nt ps asg body d)).get w' ∧ Stp M H.get w M (H.set (key l) (.loop .exhausted pe tm nt ps asg body d)).get w' := by
      intro hs
      have hrun : (Instr.endLoop p.b).run P w = .ok L.pending { w with heap := w.heap.setIfInBounds p.b (.loop { L with state := .exhausted }) } := by
        have hb : L.state ≠ LoopState.busy := by rw [h2]; exact hs
        simp [Instr.endLoop, run_getLoop h1, hb, run_setObj (P := P) (o' := .loop { L with state := .exhausted }) h1 (by simp)]
      obtain ⟨a1, a2⟩ := h.putObj (b := .loop .exhausted pe tm nt ps asg body d) hg rfl hp (.loop { L with state := .exhausted }) rfl ⟨_, put_heap h1, rfl, h3, h4⟩
      rw [Tr.get_upd]
      exact ⟨_, hrun.trans (by rw [h3]), a1, a2⟩
    split at e
    · cases e
    · rename_i hs
      obtain ⟨w', k1, k2, k3⟩ := key (fun he => hs he)
      split at e <;> first | (cases e; done) | (cases e; exact ⟨_, w', k1, rfl, k2, k3⟩)
  · cases e
theorem execE_ok {call : CallE} (hcall : CallOK P σ call) {draw : DrawE} (hdraw : DrawOK P σ draw) {nt L : Nat} {ro r : Option Nat} : ∀ (c : Code) {M : Mp} {w : World} {st : St} {a : Act} {ex : Ex} {st' : St},
    execE P call draw nt L ro c st = some (ex, st') → SR M σ nt st a w → RR M ro r → ∀ Q : Exit → Act → World → Prop, (∀ M' a' w', SR M' σ nt st' a' w' → Stp M st.H.get w M' st'.H.get w' → Q ex.to a' w') → c.wpIn (FR r) 0 P Q a w := by
  intro c
  induction c with
  | skip => intro M w st a ex st' e h hr Q hQ; simp [execE] at e; obtain ⟨rfl, rfl⟩ := e; exact wpIn_skip (hQ M a w h (Stp.refl _ _ _))
  | label l => intro M w st a ex st' e h hr Q hQ; simp [execE] at e; obtain ⟨rfl, rfl⟩ := e; exact wpIn_label (hQ M a w h (Stp.refl _ _ _))
  | exit id => intro M w st a ex st' e h hr Q hQ; simp [execE] at e; obtain ⟨rfl, rfl⟩ := e; exact wpIn_exit (hQ M a w h (Stp.refl _ _ _))
  | ret => intro M w st a ex st' e h hr Q hQ; simp [execE] at e; obtain ⟨rfl, rfl⟩ := e; exact wpIn_ret (hQ M a w h (Stp.refl _ _ _))
  | region id ops d =>
    intro M w st a ex st' e h hr Q hQ
    cases d with
    | false =>
      simp only [execE] at e
      split at e
      · rename_i st1 h1; cases e
        exact wpIn_region_list (stepsE_ok hcall rfl _ h1 h hr hQ)
      · cases e
    | true =>
      simp only [execE] at e
      split at e
      · rename_i st1 h1; cases e
        exact hdraw _ _ _ _ _ h1 _ _ _ h r Q hQ
      · cases e
  | seq x y ihx ihy =>
    intro M w st a ex st' e h hr Q hQ
    simp only [execE] at e
    refine wpIn_seq ?_
    split at e
    · rename_i st1 h1
      exact ihx h1 h hr _ fun M1 a1 w1 hs1 s1 => ihy e hs1 (hr.mono s1.le) Q fun M2 a2 w2 hs2 s2 => hQ M2 a2 w2 hs2 (s1.trans s2)
    · rename_i r' hne
      · refine ihx e h hr _ fun M1 a1 w1 hs1 s1 => ?_
        cases ex with
        | normal => exact absurd e (hne _)
        | ret => exact hQ M1 a1 w1 hs1 s1
        | exit id => exact hQ M1 a1 w1 hs1 s1
  | cond c x y ihx ihy =>
    intro M w st a ex st' e h hr Q hQ
    simp only [execE] at e
    split at e
    · rename_i hc
      exact wpIn_cond_true ((h.tm.opd _ _ hc).eq_of_clean rfl) (ihx e h hr Q hQ)
    · rename_i hc
      exact wpIn_cond_false ((h.tm.opd _ _ hc).eq_of_clean rfl) (ihy e h hr Q hQ)
    · cases e
  | block id x ih =>
    intro M w st a ex st' e h hr Q hQ
    simp only [execE] at e
    refine wpIn_block ?_
    split at e
    · rename_i id' st1 h1
      refine ih h1 h hr _ fun M1 a1 w1 hs1 s1 => ?_
      split at e
      · rename_i hb
        cases e
        have := Nat.eq_of_beq_eq_true hb
        subst this
        simpa [Ex.to, Exit.inBlock] using hQ M1 a1 w1 hs1 s1
      · rename_i hb
        cases e
        have hne : ¬ id' = id := fun he => by subst he; simp at hb
        simpa [Ex.to, Exit.inBlock, hne] using hQ M1 a1 w1 hs1 s1
    · rename_i r' hne
      · refine ih e h hr _ fun M1 a1 w1 hs1 s1 => ?_
        cases ex with
        | normal => exact hQ M1 a1 w1 hs1 s1
        | ret => exact hQ M1 a1 w1 hs1 s1
        | exit id' => exact absurd e (hne _ _)
  | loop x ih =>
    intro M w st a ex st' e h hr Q hQ
    simp only [execE] at e
    refine wpIn_loop_rounds L ?_
    suffices hn : ∀ (n : Nat) {M : Mp} {w : World} {st : St} {a : Act}, loopE (execE P call draw nt L ro x) n st = some (ex, st') → SR M σ nt st a w → RR M ro r →
        (∀ M' a' w', SR M' σ nt st' a' w' → Stp M st.H.get w M' st'.H.get w' → Q ex.to a' w') → Code.roundsIn (FR r) 0 P x Q n a w from hn L e h hr hQ
    clear e h hQ hr
    intro n
    induction n with
    | zero => intro M w st a e; simp [loopE] at e
    | succ n ihn =>
      intro M w st a e h hr hQ
      simp only [loopE] at e
      rw [roundsIn_succ]
      split at e
      · rename_i st1 h1
        exact ih h1 h hr _ fun M1 a1 w1 hs1 s1 => ihn e hs1 (hr.mono s1.le) fun M2 a2 w2 hs2 s2 => hQ M2 a2 w2 hs2 (s1.trans s2)
      · rename_i r' hne
        · refine ih e h hr _ fun M1 a1 w1 hs1 s1 => ?_
          cases ex with
          | normal => exact absurd e (hne _)
          | ret => exact hQ M1 a1 w1 hs1 s1
          | exit id => exact hQ M1 a1 w1 hs1 s1
  | rangeFunc g ps asg b _ _ =>
    intro M w st a ex st' e h hr Q hQ
    simp only [execE] at e
    split at e
    · rename_i l st1 f first captured hent hg
      split at e
      · rename_i hbod
        split at e
        · rename_i v H nx hcl
          split at e
          · rename_i ex1 H1 hend
            cases e
            refine wpIn_rangeFunc fun fn _ => ?_
            obtain ⟨M1, w1, p, mark, k1, k2, k3, k4, k5⟩ := enterE_ok (P := P) hent h hr fn
            have hgr := (h.tm.opd _ _ hg).mono k5.le
            generalize hgg : a.eval g = gv at hgr
            cases hgr with
            | func _ hf1 hf2 =>
              rename_i us vs
              have hargs : VRs M1 σ (first ++ [yieldV l] ++ captured) (us ++ [Value.func (.yield p.b) #[] #[]] ++ vs) := (hf1.append (.cons (.yield k2) .nil)).append hf2
              refine ⟨p.b, mark, w1, { target := .fn (.func f) ⟨vs⟩, args := ⟨us⟩ ++ #[Value.func (.yield p.b) #[] #[]] }, w1, f, (us ++ [Value.func (.yield p.b) #[] #[]] ++ vs).toArray, w1, k1, ?_, fun f' _ => FR_fn r f', ?_, FR_depth, ?_⟩
              · have hmap : (rangeCall g p.b).args.map a.eval = #[Value.func (.yield p.b) #[] #[]] := by simp [rangeCall, Act.eval]
                unfold resolve
                simp only [hmap, hgg, Deferred.ofValue]
                rfl
              · simp only [invoke]
                rw [callFunc_run hbod]
                congr 2
                apply Array.ext'
                simp
              · refine (calls_FR (hcall.fn _ _ _ _ _ _ _ hcl M1 w1 _ k4.hp hargs)).mono ?_
                rintro en w3 ⟨u, M3, rfl, -, hH3, hs3⟩
                obtain ⟨pe, w4, e1, e2, e3, e4⟩ := endE_ok (P := P) hend hH3 (hs3.le _ _ k2)
                refine ⟨pe, w4, e1, ?_⟩
                have hSR : SR M3 σ nt ⟨st1.tm, H1, nx, st1.df⟩ { a with defers := mark ++ a.defers } w4 := ⟨k4.tm.mono hs3.le, e3, k4.df.mono hs3.le⟩
                have hS := (k5.trans hs3).trans e4
                have := hQ M3 _ w4 hSR hS
                subst e2
                cases ex with
                | normal => exact this
                | ret => exact wpIn_ret this
                | exit id => exact wpIn_exit this
          · cases e
        · cases e
      · cases e
    · cases e
  | scope b _ => intro M w st a ex st' e; simp [execE] at e
  | goto l => intro M w st a ex st' e; simp [execE] at e
  | refuse s => intro M w st a ex st' e; simp [execE] at e
end
end Go.Proofs.YtlpepmhpnmnpkaaDoor.Ev
