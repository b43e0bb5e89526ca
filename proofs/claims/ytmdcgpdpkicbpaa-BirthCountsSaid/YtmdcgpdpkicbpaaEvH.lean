/-
  A checked evaluator, part H: calls; the operation as a whole.
-/
import Derived.Test.YtmdcgpdpkicbpaaEvN
set_option linter.unusedVariables false
set_option linter.unusedSimpArgs false
set_option linter.unusedSectionVars false
namespace Go.Proofs.Ytmdcgpdpkicbpaa.Ev
open Go Go.RowKit

variable [Tab]
section
variable {P : Program} {M : Mp} {σ : Nat → Value} [TabOK P σ] {H : Tr Blk} {w : World}
theorem evUn_ok {op : UnOp} {t : TypeId} {x : Operand} {η : Operand → Value} {v : Value} (hv : VR M σ v (η x)) (hc : clean v = true) {y : Value} (h : evClean P (Op.unary op v) = some y) {o : Oper} (ho : o.op = .unOp op t x) :
    Snd M σ H w ((execOp η o).run P w) (.pure y) := by
  obtain ⟨h1, h2⟩ := evClean_sound (w := w) h
  rw [← hv.eq_of_clean hc] at h1
  exact ⟨y, .inl (by simp [execOp, ho, h1]), VR.of_clean _ h2⟩
theorem evConv_ok {s d : TypeId} {x : Operand} {η : Operand → Value} {v : Value} (hv : VR M σ v (η x)) (hc : clean v = true) {y : Value} (h : evClean P (convert s d v) = some y) {o : Oper} (ho : o.op = .convert s d x) :
    Snd M σ H w ((execOp η o).run P w) (.pure y) := by
  obtain ⟨h1, h2⟩ := evClean_sound (w := w) h
  rw [← hv.eq_of_clean hc] at h1
  exact ⟨y, .inl (by simp [execOp, ho, h1]), VR.of_clean _ h2⟩
def notNil : Value → Bool
  | .pointer (some _) | .func (.func _) _ _ | .iface _ _ | .int _ _ | .bool _ | .string _ | .agg _ | .slice _ _ _ | .map _ => true
  | _ => false
theorem evNilCheck_ok {x : Operand} {η : Operand → Value} {v : Value} (hv : VR M σ v (η x)) (hn : notNil v = true) {o : Oper} (ho : o.op = .nilCheck x) :
    Snd M σ H w ((execOp η o).run P w) (.pure v) := by
  refine ⟨η x, .inl ?_, hv⟩
  simp only [execOp, ho]
  generalize η x = u at hv
  cases hv <;> first | (simp [notNil] at hn; done) | rfl
theorem evMakeIface_ok {t : TypeId} {d : TypeDesc} (hu : P.underlying t = some d) (hd : ∀ ms, d ≠ .interface ms) {x : Operand} {η : Operand → Value} {v : Value} (hv : VR M σ v (η x)) {o : Oper} (ho : o.op = .makeInterface t x) :
    Snd M σ H w ((execOp η o).run P w) (.pure (.iface t v)) := by
  refine ⟨.iface t (η x), .inl ?_, .iface t hv⟩
  cases d <;> first | (exact absurd rfl (hd _)) | simp [execOp, ho, Instr.makeInterface, run_underlying' hu]
theorem evMakeFunc_ok {f : FuncId} {first captured : Array Operand} {ρ : Operand → Option Value} {η : Operand → Value} (hη : Opd M σ ρ η) {xs ys : List Value} (h1 : opds ρ first.toList = some xs) (h2 : opds ρ captured.toList = some ys)
    {o : Oper} (ho : o.op = .makeFunc (.func f) first captured) : Snd M σ H w ((execOp η o).run P w) (.pure (.func (.func f) ⟨xs⟩ ⟨ys⟩)) := by
  refine ⟨.func (.func f) (first.map η) (captured.map η), .inl (by simp [execOp, ho, Instr.makeFunc]), ?_⟩
  have a := opds_vr hη h1
  have b := opds_vr hη h2
  have e1 : first.map η = ⟨first.toList.map η⟩ := by apply Array.ext'; simp
  have e2 : captured.map η = ⟨captured.toList.map η⟩ := by apply Array.ext'; simp
  rw [e1, e2]
  exact .func f a b

/-! ### calls -/
def bodied (P : Program) (f : FuncId) : Bool :=
  match P.funcs[f]? with
  | some fn => match fn.name == "runtime.NumGoroutine" with
    | true => false
    | false => fn.body.isSome
  | none => false
theorem callFunc_run {f : FuncId} (h : bodied P f = true) (args : Array Value) (w : World) : (callFunc f args).run P w = .ok (.enter f args) w := by
  unfold bodied at h
  split at h
  · rename_i fn hfn
    split at h
    · cases h
    · rename_i hn
      have hb : fn.body ≠ none := by intro e; rw [e] at h; cases h
      have hn' : fn.name ≠ "runtime.NumGoroutine" := by simpa using hn
      simp [callFunc, hfn, hn', hb]
  · cases h
def evLen (P : Program) (t : TypeId) (x : Value) (H : Tr Blk) : Option Value :=
  match P.underlying t, x with
  | some (.slice _), .slice _ n _ => some (goInt n)
  | some .string, .string s => some (goInt s.size)
  | some (.array n _), _ => some (goInt n)
  | some (.map _ _), .map none => some (goInt 0)
  | some (.map _ _), .map (some i) => match H.get (key i) with
    | some (.map es _) => some (goInt es.length)
    | _ => none
  | _, _ => none
theorem evLen_run (hH : HR M σ H.get w) {t : TypeId} {x u y : Value} (h : evLen P t x H = some y) (hx : VR M σ x u) (ty : TypeId) : (Builtin.len_ #[t] ty #[u]).run P w = .ok y w ∧ clean y = true := by
  unfold evLen at h
  split at h
  · rename_i hu; cases h; cases hx <;> exact ⟨by simp [Builtin.len_, run_underlying' hu], rfl⟩
  · rename_i hu; cases h; cases hx; exact ⟨by simp [Builtin.len_, run_underlying' hu], rfl⟩
  · rename_i hu; cases h; exact ⟨by simp [Builtin.len_, run_underlying' hu], rfl⟩
  · rename_i hu; cases h; cases hx; exact ⟨by simp [Builtin.len_, run_underlying' hu], rfl⟩
  · rename_i hu
    split at h
    · rename_i es c hg
      cases h
      cases hx with
      | map hp =>
        obtain ⟨fs, hb, her⟩ := hH.at hg rfl hp
        have hl := her.length
        refine ⟨?_, rfl⟩
        simp [Builtin.len_, run_underlying' hu, MapKept.run_getObj_map hb]
        have : fs.size = es.length := by simpa using hl.symm
        rw [this]
    · cases h
  · cases h
def evCap (P : Program) (t : TypeId) (x : Value) : Option Value :=
  match P.underlying t, x with
  | some (.slice _), .slice none _ n => some (goInt n)
  | some (.slice _), .slice (some ⟨_, _, none⟩) _ n => some (goInt n)
  | _, _ => none
theorem evCap_run {t : TypeId} {x u y : Value} (h : evCap P t x = some y) (hx : VR M σ x u) (ty : TypeId) : (Builtin.cap_ #[t] ty #[u]).run P w = .ok y w ∧ clean y = true := by
  unfold evCap at h
  split at h <;> (try (cases h; done)) <;> rename_i hu <;> cases h
  · cases hx; exact ⟨by simp [Builtin.cap_, run_underlying' hu], rfl⟩
  · cases hx; exact ⟨by simp [Builtin.cap_, run_underlying' hu], rfl⟩
/-- the method of an interface value's own type, where it is no promoted one -/
def methE (P : Program) (t : TypeId) (name : String) : Option FuncId :=
  match P.info? t with
  | some i => match i.methods.find? (·.name == name) with
    | some m => match m.path.toList, m.func with
      | [], some (f, pr) => match P.underlying t with
        | some (.pointer _) => match pr with | true => some f | false => none
        | some _ => match pr with | true => none | false => some f
        | none => none
      | _, _ => none
    | none => none
  | none => none
theorem methE_run {t : TypeId} {name : String} {f : FuncId} (h : methE P t name = some f) (n : Nat) (v : Value) : (method (n + 1) t v name).run P w = .ok (f, v) w := by
  unfold methE at h
  split at h
  · rename_i i hi
    split at h
    · rename_i m hm
      split at h
      · rename_i f' pr hp hf
        have hrec : ∀ (o : Option String), f' = f → (∃ d, P.underlying t = some d ∧ ((∃ e, d = .pointer e) ↔ pr = true)) → (receiverAt t (.val v) pr o).run P w = .ok v w := by
          rintro o - ⟨d, hd, hpr⟩
          cases d <;> cases pr <;> simp at hpr <;> simp [receiverAt, run_underlying' hd, Place.get]
        have hboth : f' = f ∧ (∃ d, P.underlying t = some d ∧ ((∃ e, d = .pointer e) ↔ pr = true)) := by
          split at h
          · rename_i e hu
            cases pr <;> simp at h
            exact ⟨h, _, hu, by simp⟩
          · rename_i d hne hu
            cases pr <;> simp at h
            refine ⟨h, d, by simpa using hu, ?_⟩
            simp only [Bool.false_eq_true, iff_false]
            rintro ⟨e, rfl⟩
            exact hne e rfl
          · cases h
        have hr := hrec (if m.path.isEmpty then some ((name.splitOn ".").getLastD name) else none) hboth.1 hboth.2
        simp only [method, Sem.run_bind, run_typeInfo' hi, Result.andThen_ok, hm, hp, follow, Sem.run_pure, hf, hr]
        rw [hboth.1]
      · cases h
    · cases h
  · cases h
def evC_len (P : Program) (c : Call) (ty : TypeId) (ρ : Operand → Option Value) (H : Tr Blk) (nx : Nat) : Option OpR :=
  match c.argTypes.toList, opds ρ c.args.toList with
    | [t], some [x] => pureO (match evLen P t x H with | some y => some y | none => lenF t x Tab.table)
    | _, _ => none
def evC_cap (P : Program) (c : Call) (ty : TypeId) (ρ : Operand → Option Value) (H : Tr Blk) (nx : Nat) : Option OpR :=
  match c.argTypes.toList, opds ρ c.args.toList with
    | [t], some [x] => pureO (evCap P t x)
    | _, _ => none
def evC_min (P : Program) (c : Call) (ty : TypeId) (ρ : Operand → Option Value) (H : Tr Blk) (nx : Nat) : Option OpR :=
  match opds ρ c.args.toList with
    | some args => match cleans args with
      | true => pureO (evClean P (Builtin.min_ c.argTypes ty ⟨args⟩))
      | false => none
    | none => none
def evC_max (P : Program) (c : Call) (ty : TypeId) (ρ : Operand → Option Value) (H : Tr Blk) (nx : Nat) : Option OpR :=
  match opds ρ c.args.toList with
    | some args => match cleans args with
      | true => pureO (evClean P (Builtin.max_ c.argTypes ty ⟨args⟩))
      | false => none
    | none => none
def evC_append (P : Program) (c : Call) (ty : TypeId) (ρ : Operand → Option Value) (H : Tr Blk) (nx : Nat) : Option OpR :=
  match c.argTypes.toList, opds ρ c.args.toList with
    | [s, t], some [x, y] => evAppend P s t x y H nx
    | _, _ => none
def evC_copy (P : Program) (c : Call) (ty : TypeId) (ρ : Operand → Option Value) (H : Tr Blk) (nx : Nat) : Option OpR :=
  match c.argTypes.toList, opds ρ c.args.toList with
    | t :: _, some [x, y] => evCopy P t x y H nx
    | _, _ => none
def evC_delete (P : Program) (c : Call) (ty : TypeId) (ρ : Operand → Option Value) (H : Tr Blk) (nx : Nat) : Option OpR :=
  match c.argTypes.toList, opds ρ c.args.toList with
    | t :: _, some [x, y] => evDelete P t x y H nx
    | _, _ => none
def evC_clear (P : Program) (c : Call) (ty : TypeId) (ρ : Operand → Option Value) (H : Tr Blk) (nx : Nat) : Option OpR :=
  match c.argTypes.toList, opds ρ c.args.toList with
    | t :: _, some [x] => evClear P t x H nx
    | _, _ => none
def evC_value (P : Program) (c : Call) (g : Operand) (ρ : Operand → Option Value) (H : Tr Blk) : Option OpR :=
  match ρ g, opds ρ c.args.toList with
    | some (.func (.func f) ⟨first⟩ ⟨captured⟩), some args => match bodied P f with
      | true => some (.call (.fn f) (first ++ args ++ captured))
      | false => none
    | some (.func (.yield l) ⟨[]⟩ ⟨[]⟩), some args => match H.get (key l) with
      | some (.loop _ _ _ _ ps _ _ _) => match Nat.beq args.length ps.toList.length with
        | true => some (.call (.yield l) args)
        | false => none
      | _ => none
    | _, _ => none
def evC_invoke (P : Program) (c : Call) (x : Operand) (name : String) (ρ : Operand → Option Value) : Option OpR :=
  match ρ x, opds ρ c.args.toList with
    | some (.iface t v), some args => match methE P t name with
      | some f => match bodied P f with
        | true => some (.call (.fn f) (v :: args))
        | false => none
      | none => none
    | _, _ => none
def evC_builtin (P : Program) (c : Call) (ty : TypeId) (ρ : Operand → Option Value) (H : Tr Blk) (nx : Nat) (b : Builtin) : Option OpR :=
  match b with
    | .len => evC_len P c ty ρ H nx
    | .cap => evC_cap P c ty ρ H nx
    | .min => evC_min P c ty ρ H nx
    | .max => evC_max P c ty ρ H nx
    | .append => evC_append P c ty ρ H nx
    | .copy => evC_copy P c ty ρ H nx
    | .delete => evC_delete P c ty ρ H nx
    | .clear => evC_clear P c ty ρ H nx
    | _ => none
def evCall (P : Program) (c : Call) (ty : TypeId) (ρ : Operand → Option Value) (H : Tr Blk) (nx : Nat) : Option OpR :=
  match c.callee with
  | .value g => evC_value P c g ρ H
  | .builtin b => evC_builtin P c ty ρ H nx b
  | .invoke x name => evC_invoke P c x name ρ
omit [Tab] in
theorem map_eq {α β : Type} (a : Array α) (f : α → β) : a.map f = ⟨a.toList.map f⟩ := by apply Array.ext'; simp
omit [Tab] in
theorem one_of {α : Type} {a : Array α} {x : α} (h : a.toList = [x]) : a = #[x] := by apply Array.ext'; simpa using h
theorem two_of {x y : Value} {l : List Value} (h : VRs M σ [x, y] l) : ∃ x' y', l = [x', y'] ∧ VR M σ x x' ∧ VR M σ y y' := by
  cases h with
  | cons h1 h2 => cases h2 with
    | cons h3 h4 => cases h4; exact ⟨_, _, rfl, h1, h3⟩
theorem evCall_ok (hH : HR M σ H.get w) {c : Call} {ρ : Operand → Option Value} {η : Operand → Value} (hη : Opd M σ ρ η) {o : Oper} {r : OpR} {nx : Nat} (h : evCall P c o.type ρ H nx = some r) (ho : o.op = .call c) :
    Snd M σ H w ((execOp η o).run P w) r := by
  unfold evCall at h
  split at h
  · rename_i g hg
    unfold evC_value at h
    split at h
    · rename_i f first captured args hf hargs
      split at h
      · rename_i hb
        cases h
        have hfr := hη _ _ hf
        have har := opds_vr hη hargs
        generalize hgg : η g = gv at hfr
        cases hfr with
        | func _ h1 h2 =>
          rename_i us vs
          refine ⟨us ++ c.args.toList.map η ++ vs, ?_, (h1.append har).append h2⟩
          simp only [execOp, ho, resolve, hg, hgg, Deferred.ofValue, Sem.run_bind, Sem.run_pure, Result.andThen_ok, invoke]
          rw [callFunc_run hb]
          congr 2
          rw [map_eq]
          apply Array.ext'
          simp
      · cases h
    · rename_i l args hf hargs
      split at h
      · rename_i st pe tm nt ps asg body df hg'
        split at h
        · rename_i hlen
          cases h
          have hfr := hη _ _ hf
          have har := opds_vr hη hargs
          generalize hgg : η g = gv at hfr
          cases hfr with
          | yield hm =>
            rename_i p
            obtain ⟨L, h1, h2, h3, h4, h5, -⟩ := hH.at hg' rfl hm
            refine ⟨c.args.toList.map η, p, L, hm, h1, ?_, har⟩
            have hsz : (c.args.map η).size = L.params.size := by
              have := har.length
              have h6 := Nat.eq_of_beq_eq_true hlen
              rw [h5]
              simp only [Array.size_map, List.length_map, Array.length_toList] at this h6 ⊢
              omega
            simp only [execOp, ho, resolve, hg, hgg, Deferred.ofValue, Sem.run_bind, Sem.run_pure, Result.andThen_ok, invoke, Instr.yield]
            have hget : (Instr.getLoop p.b).run P w = .ok L w := by
              simp only [Instr.getLoop, getObj, Sem.run_bind, Sem.run, h1, Result.andThen_ok]
              rfl
            rw [hget]
            simp only [Result.andThen_ok, Array.empty_append, hsz, ne_eq, not_true, if_false, Sem.run_pure, Sem.run_bind]
            congr 2
            unfold roundTmps
            rw [map_eq]
        · cases h
      · cases h
    · cases h
  · rename_i b hb
    unfold evC_builtin at h
    split at h
    · unfold evC_len at h
      split at h
      · rename_i t x ht hx
        obtain ⟨y, hy, rfl⟩ := pureO_eq h
        have har := opds_vr hη hx
        have hl := har.length
        obtain ⟨z, hz⟩ : ∃ z, c.args.toList.map η = [z] := by
          match h3 : c.args.toList.map η, hl with
          | [z], _ => exact ⟨z, rfl⟩
        rw [hz] at har
        cases har with
        | cons hxz _ =>
          split at hy
          · rename_i y' hy'
            cases hy
            obtain ⟨e1, e2⟩ := evLen_run (P := P) (w := w) hH hy' hxz o.type
            refine ⟨y, .inl ?_, VR.of_clean _ e2⟩
            simp only [execOp, ho, resolve, hb, Sem.run_bind, Sem.run_pure, Result.andThen_ok, invoke, builtin, one_of ht, map_eq, hz, e1]
          · obtain ⟨f1, f2, f3⟩ := lenF_ok (P := P) (σ := σ) TabOK.ok hy
            refine ⟨inst σ y, .inl ?_, f2.vr⟩
            rw [f1.eq hxz] at hz
            simp only [execOp, ho, resolve, hb, Sem.run_bind, Sem.run_pure, Result.andThen_ok, invoke, builtin, one_of ht, map_eq, hz, f3]
      · cases h
    · unfold evC_cap at h
      split at h
      · rename_i t x ht hx
        obtain ⟨y, hy, rfl⟩ := pureO_eq h
        have har := opds_vr hη hx
        have hl := har.length
        obtain ⟨z, hz⟩ : ∃ z, c.args.toList.map η = [z] := by
          match h3 : c.args.toList.map η, hl with
          | [z], _ => exact ⟨z, rfl⟩
        rw [hz] at har
        cases har with
        | cons hxz _ =>
          obtain ⟨e1, e2⟩ := evCap_run (P := P) (w := w) hy hxz o.type
          refine ⟨y, .inl ?_, VR.of_clean _ e2⟩
          simp only [execOp, ho, resolve, hb, Sem.run_bind, Sem.run_pure, Result.andThen_ok, invoke, builtin, one_of ht, map_eq, hz, e1]
      · cases h
    · unfold evC_min at h
      split at h
      · rename_i args hargs
        split at h
        · rename_i hc
          obtain ⟨y, hy, rfl⟩ := pureO_eq h
          have e := (opds_vr hη hargs).eq_of_clean hc
          obtain ⟨h1, h2⟩ := evClean_sound (w := w) hy
          refine ⟨y, .inl ?_, VR.of_clean _ h2⟩
          simp only [execOp, ho, resolve, hb, Sem.run_bind, Sem.run_pure, Result.andThen_ok, invoke, builtin, map_eq, e, h1]
        · cases h
      · cases h
    · unfold evC_max at h
      split at h
      · rename_i args hargs
        split at h
        · rename_i hc
          obtain ⟨y, hy, rfl⟩ := pureO_eq h
          have e := (opds_vr hη hargs).eq_of_clean hc
          obtain ⟨h1, h2⟩ := evClean_sound (w := w) hy
          refine ⟨y, .inl ?_, VR.of_clean _ h2⟩
          simp only [execOp, ho, resolve, hb, Sem.run_bind, Sem.run_pure, Result.andThen_ok, invoke, builtin, map_eq, e, h1]
        · cases h
      · cases h
    · unfold evC_append at h
      split at h
      · rename_i s t x y ht hx
        obtain ⟨x', y', hz, hxx, hyy⟩ := two_of (opds_vr hη hx)
        obtain ⟨v, H', nx', rfl, u, M', w', e1, e2, e3, e4⟩ := evAppend_ok (ty := o.type) hH hxx hyy h
        refine ⟨u, M', w', .inl ?_, e2, e3, e4⟩
        have ht' : c.argTypes = #[s, t] := by apply Array.ext'; simpa using ht
        simp only [execOp, ho, resolve, hb, Sem.run_bind, Sem.run_pure, Result.andThen_ok, invoke, builtin, ht', map_eq, hz, e1]
      · cases h
    · unfold evC_copy at h
      split at h
      · rename_i t ts x y ht hx
        obtain ⟨x', y', hz, hxx, hyy⟩ := two_of (opds_vr hη hx)
        obtain ⟨v, H', rfl, u, w', e1, e2, e3, e4⟩ := evCopy_ok (ty := o.type) (ts := ts) hH hxx hyy h
        refine ⟨u, M, w', .inl ?_, e2, e3, e4⟩
        have ht' : c.argTypes = ⟨t :: ts⟩ := by apply Array.ext'; simpa using ht
        simp only [execOp, ho, resolve, hb, Sem.run_bind, Sem.run_pure, Result.andThen_ok, invoke, builtin, ht', map_eq, hz, e1]
      · cases h
    · unfold evC_delete at h
      split at h
      · rename_i t ts x y ht hx
        obtain ⟨x', y', hz, hxx, hyy⟩ := two_of (opds_vr hη hx)
        obtain ⟨H', rfl, w', e1, e3, e4⟩ := evDelete_ok (ty := o.type) (ts := ts) hH hxx hyy h
        refine ⟨.tuple #[], M, w', .inl ?_, .tuple .nil, e3, e4⟩
        have ht' : c.argTypes = ⟨t :: ts⟩ := by apply Array.ext'; simpa using ht
        simp only [execOp, ho, resolve, hb, Sem.run_bind, Sem.run_pure, Result.andThen_ok, invoke, builtin, ht', map_eq, hz, e1]
      · cases h
    · unfold evC_clear at h
      split at h
      · rename_i t ts x ht hx
        have har := opds_vr hη hx
        obtain ⟨x', hz, hxx⟩ : ∃ x', c.args.toList.map η = [x'] ∧ VR M σ x x' := by
          generalize c.args.toList.map η = l at har
          cases har with
          | cons h1 h2 => cases h2; exact ⟨_, rfl, h1⟩
        obtain ⟨H', rfl, w', e1, e3, e4⟩ := evClear_ok (ty := o.type) (ts := ts) hH hxx h
        refine ⟨.tuple #[], M, w', .inl ?_, .tuple .nil, e3, e4⟩
        have ht' : c.argTypes = ⟨t :: ts⟩ := by apply Array.ext'; simpa using ht
        simp only [execOp, ho, resolve, hb, Sem.run_bind, Sem.run_pure, Result.andThen_ok, invoke, builtin, ht', map_eq, hz, e1]
      · cases h
    · cases h
  · rename_i x name hc
    unfold evC_invoke at h
    split at h
    · rename_i t v args hx hargs
      split at h
      · rename_i f hf
        split at h
        · rename_i hb
          cases h
          have hxr := hη _ _ hx
          have har := opds_vr hη hargs
          generalize hgg : η x = gv at hxr
          cases hxr with
          | iface _ hv =>
            rename_i u
            refine ⟨u :: c.args.toList.map η, ?_, .cons hv har⟩
            have hm := methE_run (P := P) (w := w) hf (P.types.size + (Made.depth - 1)) u
            have hd : P.types.size + Made.depth = P.types.size + (Made.depth - 1) + 1 := by
              have : 0 < Made.depth := by decide
              omega
            have e1 : (#[Value.iface t u] ++ c.args.map η)[0]? = some (Value.iface t u) := by
              rw [Array.getElem?_append_left (by simp)]; rfl
            have e2 : (#[Value.iface t u] ++ c.args.map η).extract 1 (#[Value.iface t u] ++ c.args.map η).size = c.args.map η := by
              apply Array.ext'
              have : (c.args.toList.map η).length = c.args.size := by simp
              simp [List.take_of_length_le, this]
            simp only [execOp, ho, resolve, hc, hgg, Sem.run_bind, Sem.run_pure, Result.andThen_ok, invoke, e1, e2, callMethod, run_program, hd, hm]
            rw [callFunc_run hb]
            congr 2
            rw [map_eq]
            apply Array.ext'
            simp
        · cases h
      · cases h
    · cases h

/-! ### an operation -/
def optE (ρ : Operand → Option Value) : Option Operand → Option (Option Value)
  | none => some none
  | some x => match ρ x with
    | some v => some (some v)
    | none => none
theorem optE_vr {ρ : Operand → Option Value} {η : Operand → Value} (hη : Opd M σ ρ η) {x : Option Operand} {r : Option Value} (h : optE ρ x = some r) :
    (r = none ∧ x.map η = none) ∨ ∃ a b, r = some a ∧ x.map η = some b ∧ VR M σ a b := by
  unfold optE at h
  split at h
  · cases h; exact .inl ⟨rfl, rfl⟩
  · split at h
    · rename_i v hv
      cases h; exact .inr ⟨_, _, rfl, rfl, hη _ _ hv⟩
    · cases h
def ev_pick (P : Program) (ρ : Operand → Option Value) (c : Operand) (a : Operand) (b : Operand) : Option OpR :=
  match ρ c with
    | some (.bool true) => pureO (ρ a)
    | some (.bool false) => pureO (ρ b)
    | _ => none
def ev_box (P : Program) (ρ : Operand → Option Value) (t : TypeId) (x : Operand) : Option OpR :=
  match ρ x with
    | some v => some (.new (.cells t v.cells.toList) ptrTo)
    | none => none
def ev_build (P : Program) (ρ : Operand → Option Value) (t : TypeId) (parts : Array (Nat × Operand)) : Option OpR :=
  match partsE ρ parts.toList with
    | some ps => evBuild P t ps
    | none => none
def ev_buildSlice (P : Program) (ρ : Operand → Option Value) (t : TypeId) (len : Nat) (parts : Array (Nat × Operand)) : Option OpR :=
  match partsE ρ parts.toList with
    | some ps => evBuildSlice P t len ps
    | none => none
def ev_load (P : Program) (ρ : Operand → Option Value) (H : Tr Blk) (nx : Nat) (t : TypeId) (a : Operand) : Option OpR :=
  match ρ a with
    | some (.pointer (some ⟨i, off, none⟩)) => pureO (loadE P t H i off)
    | some (.pointer (some ⟨i, off, some 0⟩)) => pureO (loadG P t i off)
    | _ => none
def ev_store (P : Program) (ρ : Operand → Option Value) (H : Tr Blk) (nx : Nat) (t : TypeId) (a : Operand) (x : Operand) : Option OpR :=
  match ρ a, ρ x with
    | some (.pointer (some ⟨i, off, none⟩)), some v => evStore P t H nx i off v
    | _, _ => none
def ev_nilCheck (P : Program) (ρ : Operand → Option Value) (x : Operand) : Option OpR :=
  match ρ x with
    | some v => match notNil v with
      | true => some (.pure v)
      | false => none
    | none => none
def ev_binOp (P : Program) (ρ : Operand → Option Value) (op : BinOp) (t : TypeId) (x : Operand) (z : Operand) : Option OpR :=
  match ρ x, ρ z with
    | some u, some v => pureO (match evBin P op t x z u v with | some y => some y | none => binF op u v Tab.table)
    | _, _ => none
def ev_unOp (P : Program) (ρ : Operand → Option Value) (op : UnOp) (x : Operand) : Option OpR :=
  match ρ x with
    | some v => match clean v with
      | true => pureO (evClean P (Op.unary op v))
      | false => pureO (unF op v Tab.table)
    | none => none
/-- whole numbers that fit -/
def convFast (P : Program) (s d : TypeId) (v : Value) : Option Value :=
  match v with
  | .int _ n => match P.underlying s, P.underlying d with
    | some _, some (.int l) => match inK l n with
      | true => forceI n fun r => some (.int l r)
      | false => none
    | _, _ => none
  | _ => none
theorem convFast_run {s d : TypeId} {v y : Value} (h : convFast P s d v = some y) : (convert s d v).run P w = .ok y w ∧ clean y = true ∧ clean v = true := by
  unfold convFast at h
  split at h
  · split at h
    · rename_i hs hd
      split at h
      · rename_i hk
        rw [forceI_eq] at h
        cases h
        refine ⟨?_, rfl, rfl⟩
        simp [convert, run_underlying' hs, run_underlying' hd, Conv.intToInt, inK_wrap hk]
      · cases h
    · cases h
  · cases h
theorem evConvFast_ok {s d : TypeId} {x : Operand} {η : Operand → Value} {v : Value} (hv : VR M σ v (η x)) {y : Value} (h : convFast P s d v = some y) {o : Oper} (ho : o.op = .convert s d x) :
    Snd M σ H w ((execOp η o).run P w) (.pure y) := by
  obtain ⟨h1, h2, h3⟩ := convFast_run (P := P) (w := w) h
  rw [← hv.eq_of_clean h3] at h1
  exact ⟨y, .inl (by simp [execOp, ho, h1]), VR.of_clean _ h2⟩
def ev_convert (P : Program) (ρ : Operand → Option Value) (H : Tr Blk) (nx : Nat) (s : TypeId) (d : TypeId) (x : Operand) : Option OpR :=
  match ρ x with
    | some v => match convFast P s d v with
     | some y => some (.pure y)
     | none => match clean v with
      | true => match evClean P (convert s d v) with
        | some y => some (.pure y)
        | none => evConvH P s d v H nx
      | false => match convF s d v Tab.table with
        | some y => some (.pure y)
        | none => evConvH P s d v H nx
    | none => none
def ev_makeInterface (P : Program) (ρ : Operand → Option Value) (t : TypeId) (x : Operand) : Option OpR :=
  match ρ x, P.underlying t with
    | some v, some d => match d with
      | .interface _ => none
      | _ => some (.pure (.iface t v))
    | _, _ => none
def ev_makeFunc (P : Program) (ρ : Operand → Option Value) (f : Fn) (first : Array Operand) (captured : Array Operand) : Option OpR :=
  match f with
    | .func f => match opds ρ first.toList, opds ρ captured.toList with
      | some xs, some ys => some (.pure (.func (.func f) ⟨xs⟩ ⟨ys⟩))
      | _, _ => none
    | _ => none
def ev_makeSlice (P : Program) (ρ : Operand → Option Value) (t : TypeId) (l : Operand) (c : Operand) : Option OpR :=
  match ρ l, ρ c with
    | some a, some b => evMakeSlice P t a b
    | _, _ => none
def ev_slice (P : Program) (ρ : Operand → Option Value) (t : TypeId) (x : Operand) (lo : Option Operand) (hi : Option Operand) (mx : Option Operand) : Option OpR :=
  match mx with
    | none => match ρ x, optE ρ lo, optE ρ hi with
      | some v, some l, some h => evSlice P t v l h
      | _, _, _ => none
    | some _ => none
def ev_fieldAddr (P : Program) (ρ : Operand → Option Value) (s : TypeId) (x : Operand) (f : Nat) : Option OpR :=
  match ρ x with
    | some v => evFieldAddr P s f v
    | none => none
def ev_field (P : Program) (ρ : Operand → Option Value) (t : TypeId) (x : Operand) (f : Nat) : Option OpR :=
  match ρ x with
    | some v => evField P t f v
    | none => none
def ev_indexAddr (P : Program) (ρ : Operand → Option Value) (t : TypeId) (x : Operand) (ix : Operand) : Option OpR :=
  match ρ x, ρ ix with
    | some v, some i => evIndexAddr P t v i
    | _, _ => none
def ev_index (P : Program) (ρ : Operand → Option Value) (t : TypeId) (x : Operand) (ix : Operand) : Option OpR :=
  match ρ x, ρ ix with
    | some v, some i => evIndex P t v i
    | _, _ => none
def ev_extract (P : Program) (ρ : Operand → Option Value) (t : Operand) (ix : Nat) : Option OpR :=
  match ρ t with
    | some (.tuple ⟨cs⟩) => pureO cs[ix]?
    | _ => none
def ev_makeMap (P : Program) (ρ : Operand → Option Value) (t : TypeId) (r : Option Operand) : Option OpR :=
  match optE ρ r with
    | some x => evMakeMap P t (some x)
    | none => none
def ev_lookup (P : Program) (ρ : Operand → Option Value) (H : Tr Blk) (nx : Nat) (t : TypeId) (x : Operand) (k : Operand) (ok : Bool) : Option OpR :=
  match ρ x, ρ k with
    | some u, some v => pureO (evLookup P t u v ok H)
    | _, _ => none
def ev_mapUpdate (P : Program) (ρ : Operand → Option Value) (H : Tr Blk) (nx : Nat) (t : TypeId) (m : Operand) (k : Operand) (v : Operand) : Option OpR :=
  match ρ m, ρ k, ρ v with
    | some a, some b, some c => evMapUpdate P t a b c H nx
    | _, _, _ => none
def ev_mapEntry (P : Program) (ρ : Operand → Option Value) (H : Tr Blk) (nx : Nat) (t : TypeId) (m : Operand) (k : Operand) : Option OpR :=
  match ρ m, ρ k with
    | some a, some b => evMapEntry P t a b H nx
    | _, _ => none
def ev_entryStore (P : Program) (ρ : Operand → Option Value) (H : Tr Blk) (nx : Nat) (t : TypeId) (m : Operand) (s : Operand) (v : Operand) : Option OpR :=
  match ρ m, ρ s, ρ v with
    | some a, some b, some c => evEntryStore a b c H nx
    | _, _, _ => none
def evOp (P : Program) (o : Oper) (ρ : Operand → Option Value) (H : Tr Blk) (nx : Nat) : Option OpR :=
  match o.op with
  | .move x => pureO (ρ x)
  | .assign x => pureO (ρ x)
  | .pick c a b => ev_pick P ρ c a b
  | .alloc t => evAlloc P t
  | .box t x => ev_box P ρ t x
  | .build t parts => ev_build P ρ t parts
  | .buildSlice t len parts => ev_buildSlice P ρ t len parts
  | .load t a => ev_load P ρ H nx t a
  | .store t a x => ev_store P ρ H nx t a x
  | .nilCheck x => ev_nilCheck P ρ x
  | .binOp op t x z _ => ev_binOp P ρ op t x z
  | .unOp op _ x => ev_unOp P ρ op x
  | .convert s d x => ev_convert P ρ H nx s d x
  | .makeInterface t x => ev_makeInterface P ρ t x
  | .makeFunc f first captured => ev_makeFunc P ρ f first captured
  | .makeSlice t l c => ev_makeSlice P ρ t l c
  | .slice t x lo hi mx => ev_slice P ρ t x lo hi mx
  | .fieldAddr s x f => ev_fieldAddr P ρ s x f
  | .field t x f => ev_field P ρ t x f
  | .indexAddr t x ix => ev_indexAddr P ρ t x ix
  | .index t x ix => ev_index P ρ t x ix
  | .extract t ix => ev_extract P ρ t ix
  | .call c => evCall P c o.type ρ H nx
  | .makeMap t r => ev_makeMap P ρ t r
  | .lookup t x k ok => ev_lookup P ρ H nx t x k ok
  | .mapUpdate t m k v => ev_mapUpdate P ρ H nx t m k v
  | .mapEntry t m k => ev_mapEntry P ρ H nx t m k
  | .entryStore t m s v => ev_entryStore P ρ H nx t m s v
  | _ => none
theorem evOp_ok (hH : HR M σ H.get w) {o : Oper} {ρ : Operand → Option Value} {η : Operand → Value} (hη : Opd M σ ρ η) {nx : Nat} {r : OpR} (h : evOp P o ρ H nx = some r) :
    Snd M σ H w ((execOp η o).run P w) r := by
  unfold evOp at h
  split at h
  · rename_i x ho
    obtain ⟨y, hy, rfl⟩ := pureO_eq h
    exact ⟨η x, .inl (by simp [execOp, ho]), hη _ _ hy⟩
  · rename_i x ho
    obtain ⟨y, hy, rfl⟩ := pureO_eq h
    exact ⟨η x, .inl (by simp [execOp, ho]), hη _ _ hy⟩
  · rename_i c a b ho
    unfold ev_pick at h
    split at h
    · rename_i hc
      obtain ⟨y, hy, rfl⟩ := pureO_eq h
      have e := (hη _ _ hc).eq_of_clean rfl
      exact ⟨η a, .inl (by simp [execOp, ho, e, asBool]), hη _ _ hy⟩
    · rename_i hc
      obtain ⟨y, hy, rfl⟩ := pureO_eq h
      have e := (hη _ _ hc).eq_of_clean rfl
      exact ⟨η b, .inl (by simp [execOp, ho, e, asBool]), hη _ _ hy⟩
    · cases h
  · rename_i t ho
    exact evAlloc_ok h ho η
  · rename_i t x ho
    unfold ev_box at h
    split at h
    · rename_i v hv; cases h; exact evBox_ok (hη _ _ hv) ho
    · cases h
  · rename_i t parts ho
    unfold ev_build at h
    split at h
    · rename_i ps hps; exact evBuild_ok hη hps h ho
    · cases h
  · rename_i t len parts ho
    unfold ev_buildSlice at h
    split at h
    · rename_i ps hps; exact evBuildSlice_ok hη hps h ho
    · cases h
  · rename_i t a ho
    unfold ev_load at h
    split at h
    · rename_i i off ha
      obtain ⟨y, hy, rfl⟩ := pureO_eq h
      exact evLoad_ok hH (hη _ _ ha) hy ho
    · rename_i i off ha
      obtain ⟨y, hy, rfl⟩ := pureO_eq h
      exact evLoadG_ok hH (hη _ _ ha) hy ho
    · cases h
  · rename_i t a x ho
    unfold ev_store at h
    split at h
    · rename_i i off v ha hx
      exact evStore_ok hH (hη _ _ ha) (hη _ _ hx) h ho
    · cases h
  · rename_i x ho
    unfold ev_nilCheck at h
    split at h
    · rename_i v hv
      split at h
      · rename_i hn; cases h; exact evNilCheck_ok (hη _ _ hv) hn ho
      · cases h
    · cases h
  · rename_i op t x z t' ho
    unfold ev_binOp at h
    split at h
    · rename_i u v hu hv
      obtain ⟨y, hy, rfl⟩ := pureO_eq h
      split at hy
      · rename_i y' hy'
        cases hy
        exact evBin_ok (hη _ _ hu) (hη _ _ hv) hy' ho
      · obtain ⟨f1, f2, f3, f4⟩ := binF_ok (P := P) (σ := σ) TabOK.ok hy
        refine ⟨inst σ y, .inl ?_, f3.vr⟩
        have := f4 t x z w
        rw [← f1.eq (hη _ _ hu), ← f2.eq (hη _ _ hv)] at this
        simp only [execOp, ho]
        rw [Sem.run_bind, this]
        simp
    · cases h
  · rename_i op t x ho
    unfold ev_unOp at h
    split at h
    · rename_i v hv
      split at h
      · rename_i hc
        obtain ⟨y, hy, rfl⟩ := pureO_eq h
        exact evUn_ok (hη _ _ hv) hc hy ho
      · obtain ⟨y, hy, rfl⟩ := pureO_eq h
        obtain ⟨f1, f2, f3⟩ := unF_ok (P := P) (σ := σ) TabOK.ok hy
        refine ⟨inst σ y, .inl ?_, f2.vr⟩
        have := f3 w
        rw [← f1.eq (hη _ _ hv)] at this
        simp only [execOp, ho]
        rw [Sem.run_bind, this]
        simp
    · cases h
  · rename_i s d x ho
    unfold ev_convert at h
    split at h
    · rename_i v hv
      split at h
      · rename_i y hy
        cases h
        exact evConvFast_ok (hη _ _ hv) hy ho
      split at h
      · rename_i hc
        split at h
        · rename_i y hy
          cases h
          exact evConv_ok (hη _ _ hv) hc hy ho
        · exact evConvH_ok hH (hη _ _ hv) h ho
      · split at h
        · rename_i y hy
          cases h
          obtain ⟨f1, f2, f3⟩ := convF_ok (P := P) (σ := σ) TabOK.ok hy
          refine ⟨inst σ y, .inl ?_, f2.vr⟩
          have := f3 w
          rw [← f1.eq (hη _ _ hv)] at this
          simp only [execOp, ho]
          rw [Sem.run_bind, this]
          simp
        · exact evConvH_ok hH (hη _ _ hv) h ho
    · cases h
  · rename_i t x ho
    unfold ev_makeInterface at h
    split at h
    · rename_i v d hv hd
      split at h
      · cases h
      · rename_i hne; cases h; exact evMakeIface_ok hd (fun ms e => hne ms e) (hη _ _ hv) ho
    · cases h
  · rename_i f first captured ho
    unfold ev_makeFunc at h
    split at h
    · split at h
      · rename_i xs ys h1 h2; cases h; exact evMakeFunc_ok hη h1 h2 ho
      · cases h
    · cases h
  · rename_i t l c ho
    unfold ev_makeSlice at h
    split at h
    · rename_i a b ha hb; exact evMakeSlice_ok (hη _ _ ha) (hη _ _ hb) h ho
    · cases h
  · rename_i t x lo hi mx ho
    unfold ev_slice at h
    split at h
    · split at h
      · rename_i v l hh hv hl hhi
        exact evSlice_ok (hη _ _ hv) (optE_vr hη hl) (optE_vr hη hhi) h ho
      · cases h
    · cases h
  · rename_i s x f ho
    unfold ev_fieldAddr at h
    split at h
    · rename_i v hv; exact evFieldAddr_ok (hη _ _ hv) h ho
    · cases h
  · rename_i t x f ho
    unfold ev_field at h
    split at h
    · rename_i v hv; exact evField_ok (hη _ _ hv) h ho
    · cases h
  · rename_i t x ix ho
    unfold ev_indexAddr at h
    split at h
    · rename_i v i hv hi; exact evIndexAddr_ok (hη _ _ hv) (hη _ _ hi) h ho
    · cases h
  · rename_i t x ix ho
    unfold ev_index at h
    split at h
    · rename_i v i hv hi; exact evIndex_ok (hη _ _ hv) (hη _ _ hi) h ho
    · cases h
  · rename_i t ix ho
    unfold ev_extract at h
    split at h
    · rename_i cs hcs
      obtain ⟨y, hy, rfl⟩ := pureO_eq h
      exact evExtract_ok (hη _ _ hcs) hy ho
    · cases h
  · rename_i c ho
    exact evCall_ok hH hη h ho
  · rename_i t rs ho
    unfold ev_makeMap at h
    split at h
    · rename_i x hx; exact evMakeMap_ok (optE_vr hη hx) h ho
    · cases h
  · rename_i t x k ok ho
    unfold ev_lookup at h
    split at h
    · rename_i u v hu hv
      obtain ⟨y, hy, rfl⟩ := pureO_eq h
      obtain ⟨u', e1, e2⟩ := evLookup_run hH (hη _ _ hu) (hη _ _ hv) hy
      exact ⟨u', .inl (by simp [execOp, ho, e1]), e2⟩
    · cases h
  · rename_i t m k v ho
    unfold ev_mapUpdate at h
    split at h
    · rename_i a b c ha hb hc
      obtain ⟨H', rfl, w', e1, e2, e3⟩ := evMapUpdate_ok hH (hη _ _ ha) (hη _ _ hb) (hη _ _ hc) h
      exact ⟨undef, M, w', .inr ⟨by simp [execOp, ho, e1], rfl⟩, undef_vr, e2, e3⟩
    · cases h
  · rename_i t m k ho
    unfold ev_mapEntry at h
    split at h
    · rename_i a b ha hb
      obtain ⟨v, H', rfl, u, w', e1, e2, e3, e4⟩ := evMapEntry_ok hH (hη _ _ ha) (hη _ _ hb) h
      exact ⟨u, M, w', .inl (by simp [execOp, ho, e1]), e2, e3, e4⟩
    · cases h
  · rename_i t m s v ho
    unfold ev_entryStore at h
    split at h
    · rename_i a b c ha hb hc
      obtain ⟨H', rfl, w', e1, e2, e3⟩ := evEntryStore_ok (P := P) (t := t) hH (hη _ _ ha) (hη _ _ hb) (hη _ _ hc) h
      exact ⟨undef, M, w', .inr ⟨by simp [execOp, ho, e1], rfl⟩, undef_vr, e2, e3⟩
    · cases h
  · cases h
end
end Go.Proofs.Ytmdcgpdpkicbpaa.Ev
