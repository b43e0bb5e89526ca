/-
  A checked evaluator, part H: calls; the operation as a whole.
-/
import Derived.Test.YtahihfhfkjiimaaDoorEvN
set_option linter.unusedVariables false
set_option linter.unusedSimpArgs false
set_option linter.unusedSectionVars false
namespace Go.Proofs.YtahihfhfkjiimaaDoor.Ev
open Go Go.RowKit

variable [Tab]
section
variable {P : Program} {M : Mp} {σ : Nat → Value} [TabOK P σ] {H : Tr Blk} {w : World}
theorem evUn_ok {op : UnOp} {t : TypeId} {x : Operand} {η : Operand → Value} {v : Value} (hv : VR M σ v (η x)) (hc : clean v = true) {y : Value} (h : evClean P (Op.unary op v) = some y) {o : Oper} (ho : o.op = .unOp op t x) :
    Snd M σ H w ((execOp η o).run P w) (.pure y) := by
  obtain ⟨h1, h2⟩ := evClean_sound (w := w) h
  rw [← hv.eq_of_clean hc] at h1
  exact ⟨y, .inl (by simp [execOp, ho, h1]), VR.of_clean _ h2⟩
theorem evConv_ok {s d : TypeId} {x : Operand} {η : Operand → Value} {v : Value} (hv : VR M σ v (η x)) (hc : clean v = true) {y : Value} (h : evClean P (convert s d v) = some y) {o : Oper} (ho : o.op = .convert s d x) :
    Snd M σ H w ((execOp η o).run P w) (.pure y) := by
  obtain ⟨h1, h2⟩ := evClean_sound (w := w) h
  rw [← hv.eq_of_clean hc] at h1
  exact ⟨y, .inl (by simp [execOp, ho, h1]), VR.of_clean _ h2⟩
def notNil : Value → Bool
  | .pointer (some _) | .func (.func _) _ _ | .iface _ _ | .int _ _ | .bool _ | .string _ | .agg _ | .slice _ _ _ | .map _ => true
  | _ => false
theorem evNilCheck_ok {x : Operand} {η : Operand → Value} {v : Value} (hv : VR M σ v (η x)) (hn : notNil v = true) {o : Oper} (ho : o.op = .nilCheck x) :
    Snd M σ H w ((execOp η o).run P w) (.pure v) := by
  refine ⟨η x, .inl ?_, hv⟩
  simp only [execOp, ho]
  generalize η x = u at hv
  cases hv <;> first | (simp [notNil] at hn; done) | rfl
theorem evMakeIface_ok {t : TypeId} {d : TypeDesc} (hu : P.underlying t = some d) (hd : ∀ ms, d ≠ .interface ms) {x : Operand} {η : Operand → Value} {v : Value} (hv : VR M σ v (η x)) {o : Oper} (ho : o.op = .makeInterface t x) :
    Snd M σ H w ((execOp η o).run P w) (.pure (.iface t v)) := by
  refine ⟨.iface t (η x), .inl ?_, .iface t hv⟩
  cases d <;> first | (exact absurd rfl (hd _)) | simp [execOp, ho, Instr.makeInterface, run_underlying' hu]
theorem evMakeFunc_ok {f : FuncId} {first captured : Array Operand} {ρ : Operand → Option Value} {η : Operand → Value} (hη : Opd M σ ρ η) {xs ys : List Value} (h1 : opds ρ first.toList = some xs) (h2 : opds ρ captured.toList = some ys)
    {o : Oper} (ho : o.op = .makeFunc (.func f) first captured) : Snd M σ H w ((execOp η o).run P w) (.pure (.func (.func f) ⟨xs⟩ ⟨ys⟩)) := by
  refine ⟨.func (.func f) (first.map η) (captured.map η), .inl (by simp [execOp, ho, Instr.makeFunc]), ?_⟩
  have a := opds_vr hη h1
  have b := opds_vr hη h2
  have e1 : first.map η = ⟨first.toList.map η⟩ := by apply Array.ext'; simp
  have e2 : captured.map η = ⟨captured.toList.map η⟩ := by apply Array.ext'; simp
  rw [e1, e2]
  exact .func f a b

/-! ### calls -/
def bodied (P : Program) (f : FuncId) : Bool :=
  match P.funcs[f]? with
  | some fn => match fn.name == "runtime.NumGoroutine" with
    | true => false
    | false => fn.body.isSome
  | none => false
theorem callFunc_run {f : FuncId} (h : bodied P f = true) (args : Array Value) (w : World) : (callFunc f args).run P w = .ok (.enter f args) w := by
  unfold bodied at h
  split at h
  · rename_i fn hfn
    split at h
    · cases h
    · rename_i hn
      have hb : fn.body ≠ none := by intro e; rw [e] at h; cases h
      have hn' : fn.name ≠ "runtime.NumGoroutine" := by simpa using hn
      simp [callFunc, hfn, hn', hb]
  · cases h
def evLen (P : Program) (t : TypeId) (x : Value) (H : Tr Blk) : Option Value :=
  match P.underlying t, x with
  | some (.slice _), .slice _ n _ => some (goInt n)
  | some .string, .string s => some (goInt s.size)
  | some (.array n _), _ => some (goInt n)
  | some (.map _ _), .map none => some (goInt 0)
  | some (.map _ _), .map (some i) => match H.get (key i) with
    | some (.map es _) => some (goInt es.length)
    | _ => none
  | _, _ => none
theorem evLen_run (hH : HR M σ H.get w) {t : TypeId} {x u y : Value} (h : evLen P t x H = some y) (hx : VR M σ x u) (ty : TypeId) : (Builtin.len_ #[t] ty #[u]).run P w = .ok y w ∧ clean y = true := by
  unfold evLen at h
  split at h
  · rename_i hu; cases h; cases hx <;> exact ⟨by simp [Builtin.len_, run_underlying' hu], rfl⟩
  · rename_i hu; cases h; cases hx; exact ⟨by simp [Builtin.len_, run_underlying' hu], rfl⟩
  · rename_i hu; cases h; exact ⟨by simp [Builtin.len_, run_underlying' hu], rfl⟩
  · rename_i hu; cases h; cases hx; exact ⟨by simp [Builtin.len_, run_underlying' hu], rfl⟩
  · rename_i hu
    split at h
    · rename_i es c hg
      cases h
      cases hx with
      | map hp =>
        obtain ⟨fs, hb, her⟩ := hH.at hg rfl hp
        have hl := her.length
        refine ⟨?_, rfl⟩
        simp [Builtin.len_, run_underlying' hu, MapKept.run_getObj_map hb]
        have : fs.size = es.length := by simpa using hl.symm
        rw [this]
    · cases h
  · cases h
def evCap (P : Program) (t : TypeId) (x : Value) : Option Value :=
  match P.underlying t, x with
  | some (.slice _), .slice none _ n => some (goInt n)
  | some (.slice _), .slice (some ⟨_, _, none⟩) _ n => some (goInt n)
  | _, _ => none
theorem evCap_run {t : TypeId} {x u y : Value} (h : evCap P t x = some y) (hx : VR M σ x u) (ty : TypeId) : (Builtin.cap_ #[t] ty #[u]).run P w = .ok y w ∧ clean y = true := by
  unfold evCap at h
  split at h <;> (try (cases h; done)) <;> rename_i hu <;> cases h
  · cases hx; exact ⟨by simp [Builtin.cap_, run_underlying' hu], rfl⟩
  · cases hx; exact ⟨by simp [Builtin.cap_, run_underlying' hu], rfl⟩
/-- the method of an interface value's own type, where it is no promoted one -/
def methE (P : Program) (t : TypeId) (name : String) : Option FuncId :=
  match P.info? t with
  | some i => match i.methods.find? (·.name == name) with
    | some m => match m.path.toList, m.func with
      | [], some (f, pr) => match P.underlying t with
        | some (.pointer _) => match pr with | true => some f | false => none
        | some _ => match pr with | true => none | false => some f
        | none => none
      | _, _ => none
    | none => none
  | none => none
theorem methE_run {t : TypeId} {name : String} {f : FuncId} (h : methE P t name = some f) (n : Nat) (v : Value) : (method (n + 1) t v name).run P w = .ok (f, v) w := by
  unfold methE at h
  split at h
  · rename_i i hi
    split at h
    · rename_i m hm
      split at h
      · rename_i f' pr hp hf
        have hrec : ∀ (o : Option String), f' = f → (∃ d, P.underlying t = some d ∧ ((∃ e, d = .pointer e) ↔ pr = true)) → (receiverAt t (.val v) pr o).run P w = .ok v w := by
          rintro o - ⟨d, hd, hpr⟩
          cases d <;> cases pr <;> simp at hpr <;> simp [receiverAt, run_underlying' hd, Place.get]
        have hboth : f' = f ∧ (∃ d, P.underlying t = some d ∧ ((∃ e, d = .pointer e) ↔ pr = true)) := by
          split at h
          · rename_i e hu
            cases pr <;> simp at h
            exact ⟨h, _, hu, by simp⟩
          · rename_i d hne hu
            cases pr <;> simp at h
            refine ⟨h, d, by simpa using hu, ?_⟩
            simp only [Bool.false_eq_true, iff_false]
            rintro ⟨e, rfl⟩
            exact hne e rfl
          · cases h
        have hr := hrec (if m.path.isEmpty then some ((name.splitOn ".").getLastD name) else none) hboth.1 hboth.2
        simp only [method, Sem.run_bind, run_typeInfo' hi, Result.andThen_ok, hm, hp, follow, Sem.run_pure, hf, hr]
        rw [hboth.1]
      · cases h
    · cases h
  · cases h
def evCall (P : Program) (c : Call) (ty : TypeId) (ρ : Operand → Option Value) (H : Tr Blk) (nx : Nat) : Option OpR :=
  match c.callee with
  | .value g => match ρ g, opds ρ c.args.toList with
    | some (.func (.func f) ⟨first⟩ ⟨captured⟩), some args => match bodied P f with
      | true => some (.call (.fn f) (first ++ args ++ captured))
      | false => none
    | some (.func (.yield l) ⟨[]⟩ ⟨[]⟩), some args => match H.get (key l) with
      | some (.loop _ _ _ _ ps _ _ _) => match Nat.beq args.length ps.toList.length with
        | true => some (.call (.yield l) args)
        | false => none
      | _ => none
    | _, _ => none
  | .builtin b => match b with
    | .len => match c.argTypes.toList, opds ρ c.args.toList with
      | [t], some [x] => pureO (match evLen P t x H with | some y => some y | none => lenF t x Tab.table)
      | _, _ => none
    | .cap => match c.argTypes.toList, opds ρ c.args.toList with
      | [t], some [x] => pureO (evCap P t x)
      | _, _ => none
    | .min => match opds ρ c.args.toList with
      | some args => match cleans args with
        | true => pureO (evClean P (Builtin.min_ c.argTypes ty ⟨args⟩))
        | false => none
      | none => none
    | .max => match opds ρ c.args.toList with
      | some args => match cleans args with
        | true => pureO (evClean P (Builtin.max_ c.argTypes ty ⟨args⟩))
        | false => none
      | none => none
    | .append => match c.argTypes.toList, opds ρ c.args.toList with
      | [s, t], some [x, y] => evAppend P s t x y H nx
      | _, _ => none
    | .copy => match c.argTypes.toList, opds ρ c.args.toList with
      | t :: _, some [x, y] => evCopy P t x y H nx
      | _, _ => none
    | .delete => match c.argTypes.toList, opds ρ c.args.toList with
      | t :: _, some [x, y] => evDelete P t x y H nx
      | _, _ => none
    | .clear => match c.argTypes.toList, opds ρ c.args.toList with
      | t :: _, some [x] => evClear P t x H nx
      | _, _ => none
    | _ => none
  | .invoke x name => match ρ x, opds ρ c.args.toList with
    | some (.iface t v), some args => match methE P t name with
      | some f => match bodied P f with
        | true => some (.call (.fn f) (v :: args))
        | false => none
      | none => none
    | _, _ => none
omit [Tab] in
theorem map_eq {α β : Type} (a : Array α) (f : α → β) : a.map f = ⟨a.toList.map f⟩ := by apply Array.ext'; simp
omit [Tab] in
theorem one_of {α : Type} {a : Array α} {x : α} (h : a.toList = [x]) : a = #[x] := by apply Array.ext'; simpa using h
theorem two_of {x y : Value} {l : List Value} (h : VRs M σ [x, y] l) : ∃ x' y', l = [x', y'] ∧ VR M σ x x' ∧ VR M σ y y' := by
  cases h with
  | cons h1 h2 => cases h2 with
    | cons h3 h4 => cases h4; exact ⟨_, _, rfl, h1, h3⟩
theorem evCall_ok (hH : HR M σ H.get w) {c : Call} {ρ : Operand → Option Value} {η : Operand → Value} (hη : Opd M σ ρ η) {o : Oper} {r : OpR} {nx : Nat} (h : evCall P c o.type ρ H nx = some r) (ho : o.op = .call c) :
    Snd M σ H w ((execOp η o).run P w) r := by
  unfold evCall at h
  split at h
  · rename_i g hg
    split at h
    · rename_i f first captured args hf hargs
      split at h
      · rename_i hb
        cases h
        have hfr := hη _ _ hf
        have har := opds_vr hη hargs
        generalize hgg : η g = gv at hfr
        cases hfr with
        | func _ h1 h2 =>
          rename_i us vs
          refine ⟨us ++ c.args.toList.map η ++ vs, ?_, (h1.append har).append h2⟩
          simp only [execOp, ho, resolve, hg, hgg, Deferred.ofValue, Sem.run_bind, Sem.run_pure, Result.andThen_ok, invoke]
          rw [callFunc_run hb]
          congr 2
          rw [map_eq]
          apply Array.ext'
          simp
      · cases h
    · rename_i l args hf hargs
      split at h
      · rename_i st pe tm nt ps asg body df hg'
        split at h
        · rename_i hlen
          cases h
          have hfr := hη _ _ hf
          have har := opds_vr hη hargs
          generalize hgg : η g = gv at hfr
          cases hfr with
          | yield hm =>
            rename_i p
            obtain ⟨L, h1, h2, h3, h4, h5, -⟩ := hH.at hg' rfl hm
            refine ⟨c.args.toList.map η, p, L, hm, h1, ?_, har⟩
            have hsz : (c.args.map η).size = L.params.size := by
              have := har.length
              have h6 := Nat.eq_of_beq_eq_true hlen
              rw [h5]
              simp only [Array.size_map, List.length_map, Array.length_toList] at this h6 ⊢
              omega
            simp only [execOp, ho, resolve, hg, hgg, Deferred.ofValue, Sem.run_bind, Sem.run_pure, Result.andThen_ok, invoke, Instr.yield]
            have hget : (Instr.getLoop p.b).run P w = .ok L w := by
              simp only [Instr.getLoop, getObj, Sem.run_bind, Sem.run, h1, Result.andThen_ok]
              rfl
            rw [hget]
            simp only [Result.andThen_ok, Array.empty_append, hsz, ne_eq, not_true, if_false, Sem.run_pure, Sem.run_bind]
            congr 2
            unfold roundTmps
            rw [map_eq]
        · cases h
      · cases h
    · cases h
  · rename_i b hb
    split at h
    · split at h
      · rename_i t x ht hx
        obtain ⟨y, hy, rfl⟩ := pureO_eq h
        have har := opds_vr hη hx
        have hl := har.length
        obtain ⟨z, hz⟩ : ∃ z, c.args.toList.map η = [z] := by
          match h3 : c.args.toList.map η, hl with
          | [z], _ => exact ⟨z, rfl⟩
        rw [hz] at har
        cases har with
        | cons hxz _ =>
          split at hy
          · rename_i y' hy'
            cases hy
            obtain ⟨e1, e2⟩ := evLen_run (P := P) (w := w) hH hy' hxz o.type
            refine ⟨y, .inl ?_, VR.of_clean _ e2⟩
            simp only [execOp, ho, resolve, hb, Sem.run_bind, Sem.run_pure, Result.andThen_ok, invoke, builtin, one_of ht, map_eq, hz, e1]
          · obtain ⟨f1, f2, f3⟩ := lenF_ok (P := P) (σ := σ) TabOK.ok hy
            refine ⟨inst σ y, .inl ?_, f2.vr⟩
            rw [f1.eq hxz] at hz
            simp only [execOp, ho, resolve, hb, Sem.run_bind, Sem.run_pure, Result.andThen_ok, invoke, builtin, one_of ht, map_eq, hz, f3]
      · cases h
    · split at h
      · rename_i t x ht hx
        obtain ⟨y, hy, rfl⟩ := pureO_eq h
        have har := opds_vr hη hx
        have hl := har.length
        obtain ⟨z, hz⟩ : ∃ z, c.args.toList.map η = [z] := by
          match h3 : c.args.toList.map η, hl with
          | [z], _ => exact ⟨z, rfl⟩
        rw [hz] at har
        cases har with
        | cons hxz _ =>
          obtain ⟨e1, e2⟩ := evCap_run (P := P) (w := w) hy hxz o.type
          refine ⟨y, .inl ?_, VR.of_clean _ e2⟩
          simp only [execOp, ho, resolve, hb, Sem.run_bind, Sem.run_pure, Result.andThen_ok, invoke, builtin, one_of ht, map_eq, hz, e1]
      · cases h
    · split at h
      · rename_i args hargs
        split at h
        · rename_i hc
          obtain ⟨y, hy, rfl⟩ := pureO_eq h
          have e := (opds_vr hη hargs).eq_of_clean hc
          obtain ⟨h1, h2⟩ := evClean_sound (w := w) hy
          refine ⟨y, .inl ?_, VR.of_clean _ h2⟩
          simp only [execOp, ho, resolve, hb, Sem.run_bind, Sem.run_pure, Result.andThen_ok, invoke, builtin, map_eq, e, h1]
        · cases h
      · cases h
    · split at h
      · rename_i args hargs
        split at h
        · rename_i hc
          obtain ⟨y, hy, rfl⟩ := pureO_eq h
          have e := (opds_vr hη hargs).eq_of_clean hc
          obtain ⟨h1, h2⟩ := evClean_sound (w := w) hy
          refine ⟨y, .inl ?_, VR.of_clean _ h2⟩
          simp only [execOp, ho, resolve, hb, Sem.run_bind, Sem.run_pure, Result.andThen_ok, invoke, builtin, map_eq, e, h1]
        · cases h
      · cases h
    · split at h
      · rename_i s t x y ht hx
        obtain ⟨x', y', hz, hxx, hyy⟩ := two_of (opds_vr hη hx)
        obtain ⟨v, H', nx', rfl, u, M', w', e1, e2, e3, e4⟩ := evAppend_ok (ty := o.type) hH hxx hyy h
        refine ⟨u, M', w', .inl ?_, e2, e3, e4⟩
        have ht' : c.argTypes = #[s, t] := by apply Array.ext'; simpa using ht
        simp only [execOp, ho, resolve, hb, Sem.run_bind, Sem.run_pure, Result.andThen_ok, invoke, builtin, ht', map_eq, hz, e1]
      · cases h
    · split at h
      · rename_i t ts x y ht hx
        obtain ⟨x', y', hz, hxx, hyy⟩ := two_of (opds_vr hη hx)
        obtain ⟨v, H', rfl, u, w', e1, e2, e3, e4⟩ := evCopy_ok (ty := o.type) (ts := ts) hH hxx hyy h
        refine ⟨u, M, w', .inl ?_, e2, e3, e4⟩
        have ht' : c.argTypes = ⟨t :: ts⟩ := by apply Array.ext'; simpa using ht
        simp only [execOp, ho, resolve, hb, Sem.run_bind, Sem.run_pure, Result.andThen_ok, invoke, builtin, ht', map_eq, hz, e1]
      · cases h
    · split at h
      · rename_i t ts x y ht hx
        obtain ⟨x', y', hz, hxx, hyy⟩ := two_of (opds_vr hη hx)
        obtain ⟨H', rfl, w', e1, e3, e4⟩ := evDelete_ok (ty := o.type) (ts := ts) hH hxx hyy h
        refine ⟨.tuple #[], M, w', .inl ?_, .tuple .nil, e3, e4⟩
        have ht' : c.argTypes = ⟨t :: ts⟩ := by apply Array.ext'; simpa using ht
        simp only [execOp, ho, resolve, hb, Sem.run_bind, Sem.run_pure, Result.andThen_ok, invoke, builtin, ht', map_eq, hz, e1]
      · cases h
    · split at h
      · rename_i t ts x ht hx
        have har := opds_vr hη hx
        obtain ⟨x', hz, hxx⟩ : ∃ x', c.args.toList.map η = [x'] ∧ VR M σ x x' := by
          generalize c.args.toList.map η = l at har
          cases har with
          | cons h1 h2 => cases h2; exact ⟨_, rfl, h1⟩
        obtain ⟨H', rfl, w', e1, e3, e4⟩ := evClear_ok (ty := o.type) (ts := ts) hH hxx h
        refine ⟨.tuple #[], M, w', .inl ?_, .tuple .nil, e3, e4⟩
        have ht' : c.argTypes = ⟨t :: ts⟩ := by apply Array.ext'; simpa using ht
        simp only [execOp, ho, resolve, hb, Sem.run_bind, Sem.run_pure, Result.andThen_ok, invoke, builtin, ht', map_eq, hz, e1]
      · cases h
    · cases h
  · rename_i x name hc
    split at h
    · rename_i t v args hx hargs
      split at h
      · rename_i f hf
        split at h
        · rename_i hb
          cases h
          have hxr := hη _ _ hx
          have har := opds_vr hη hargs
          generalize hgg : η x = gv at hxr
          cases hxr with
          | iface _ hv =>
            rename_i u
            refine ⟨u :: c.args.toList.map η, ?_, .cons hv har⟩
            have hm := methE_run (P := P) (w := w) hf (P.types.size + (Made.depth - 1)) u
            have hd : P.types.size + Made.depth = P.types.size + (Made.depth - 1) + 1 := by
              have : 0 < Made.depth := by decide
              omega
            have e1 : (#[Value.iface t u] ++ c.args.map η)[0]? = some (Value.iface t u) := by
              rw [Array.getElem?_append_left (by simp)]; rfl
            have e2 : (#[Value.iface t u] ++ c.args.map η).extract 1 (#[Value.iface t u] ++ c.args.map η).size = c.args.map η := by
              apply Array.ext'
              have : (c.args.toList.map η).length = c.args.size := by simp
              simp [List.take_of_length_le, this]
            simp only [execOp, ho, resolve, hc, hgg, Sem.run_bind, Sem.run_pure, Result.andThen_ok, invoke, e1, e2, callMethod, run_program, hd, hm]
            rw [callFunc_run hb]
            congr 2
            rw [map_eq]
            apply Array.ext'
            simp
        · cases h
      · cases h
    · cases h

/-! ### an operation -/
def optE (ρ : Operand → Option Value) : Option Operand → Option (Option Value)
  | none => some none
  | some x => match ρ x with
    | some v => some (some v)
    | none => none
theorem optE_vr {ρ : Operand → Option Value} {η : Operand → Value} (hη : Opd M σ ρ η) {x : Option Operand} {r : Option Value} (h : optE ρ x = some r) :
    (r = none ∧ x.map η = none) ∨ ∃ a b, r = some a ∧ x.map η = some b ∧ VR M σ a b := by
  unfold optE at h
  split at h
  · cases h; exact .inl ⟨rfl, rfl⟩
  · split at h
    · rename_i v hv
      cases h; exact .inr ⟨_, _, rfl, rfl, hη _ _ hv⟩
    · cases h
def evOp (P : Program) (o : Oper) (ρ : Operand → Option Value) (H : Tr Blk) (nx : Nat) : Option OpR :=
  match o.op with
  | .move x => pureO (ρ x)
  | .assign x => pureO (ρ x)
  | .pick c a b => match ρ c with
    | some (.bool true) => pureO (ρ a)
    | some (.bool false) => pureO (ρ b)
    | _ => none
  | .alloc t => evAlloc P t
  | .box t x => match ρ x with
    | some v => some (.new (.cells t v.cells.toList) ptrTo)
    | none => none
  | .build t parts => match partsE ρ parts.toList with
    | some ps => evBuild P t ps
    | none => none
  | .buildSlice t len parts => match partsE ρ parts.toList with
    | some ps => evBuildSlice P t len ps
    | none => none
  | .load t a => match ρ a with
    | some (.pointer (some ⟨i, off, none⟩)) => pureO (loadE P t H i off)
    | some (.pointer (some ⟨i, off, some 0⟩)) => pureO (loadG P t i off)
    | _ => none
  | .store t a x => match ρ a, ρ x with
    | some (.pointer (some ⟨i, off, none⟩)), some v => evStore P t H nx i off v
    | _, _ => none
  | .nilCheck x => match ρ x with
    | some v => match notNil v with
      | true => some (.pure v)
      | false => none
    | none => none
  | .binOp op t x z _ => match ρ x, ρ z with
    | some u, some v => pureO (match evBin P op t x z u v with | some y => some y | none => binF op u v Tab.table)
    | _, _ => none
  | .unOp op _ x => match ρ x with
    | some v => match clean v with
      | true => pureO (evClean P (Op.unary op v))
      | false => pureO (unF op v Tab.table)
    | none => none
  | .convert s d x => match ρ x with
    | some v => match clean v with
      | true => match evClean P (convert s d v) with
        | some y => some (.pure y)
        | none => evConvH P s d v H nx
      | false => match convF s d v Tab.table with
        | some y => some (.pure y)
        | none => evConvH P s d v H nx
    | none => none
  | .makeInterface t x => match ρ x, P.underlying t with
    | some v, some d => match d with
      | .interface _ => none
      | _ => some (.pure (.iface t v))
    | _, _ => none
  | .makeFunc f first captured => match f with
    | .func f => match opds ρ first.toList, opds ρ captured.toList with
      | some xs, some ys => some (.pure (.func (.func f) ⟨xs⟩ ⟨ys⟩))
      | _, _ => none
    | _ => none
  | .makeSlice t l c => match ρ l, ρ c with
    | some a, some b => evMakeSlice P t a b
    | _, _ => none
  | .slice t x lo hi mx => match mx with
    | none => match ρ x, optE ρ lo, optE ρ hi with
      | some v, some l, some h => evSlice P t v l h
      | _, _, _ => none
    | some _ => none
  | .fieldAddr s x f => match ρ x with
    | some v => evFieldAddr P s f v
    | none => none
  | .field t x f => match ρ x with
    | some v => evField P t f v
    | none => none
  | .indexAddr t x ix => match ρ x, ρ ix with
    | some v, some i => evIndexAddr P t v i
    | _, _ => none
  | .index t x ix => match ρ x, ρ ix with
    | some v, some i => evIndex P t v i
    | _, _ => none
  | .extract t ix => match ρ t with
    | some (.tuple ⟨cs⟩) => pureO cs[ix]?
    | _ => none
  | .call c => evCall P c o.type ρ H nx
  | .makeMap t r => match optE ρ r with
    | some x => evMakeMap P t (some x)
    | none => none
  | .lookup t x k ok => match ρ x, ρ k with
    | some u, some v => pureO (evLookup P t u v ok H)
    | _, _ => none
  | .mapUpdate t m k v => match ρ m, ρ k, ρ v with
    | some a, some b, some c => evMapUpdate P t a b c H nx
    | _, _, _ => none
  | .mapEntry t m k => match ρ m, ρ k with
    | some a, some b => evMapEntry P t a b H nx
    | _, _ => none
  | .entryStore t m s v => match ρ m, ρ s, ρ v with
    | some a, some b, some c => evEntryStore a b c H nx
    | _, _, _ => none
  | _ => none
theorem evOp_ok (hH : HR M σ H.get w) {o : Oper} {ρ : Operand → Option Value} {η : Operand → Value} (hη : Opd M σ ρ η) {nx : Nat} {r : OpR} (h : evOp P o ρ H nx = some r) :
    Snd M σ H w ((execOp η o).run P w) r := by
  unfold evOp at h
  split at h
  · rename_i x ho
    obtain ⟨y, hy, rfl⟩ := pureO_eq h
    exact ⟨η x, .inl (by simp [execOp, ho]), hη _ _ hy⟩
  · rename_i x ho
    obtain ⟨y, hy, rfl⟩ := pureO_eq h
    exact ⟨η x, .inl (by simp [execOp, ho]), hη _ _ hy⟩
  · rename_i c a b ho
    split at h
    · rename_i hc
      obtain ⟨y, hy, rfl⟩ := pureO_eq h
      have e := (hη _ _ hc).eq_of_clean rfl
      exact ⟨η a, .inl (by simp [execOp, ho, e, asBool]), hη _ _ hy⟩
    · rename_i hc
      obtain ⟨y, hy, rfl⟩ := pureO_eq h
      have e := (hη _ _ hc).eq_of_clean rfl
      exact ⟨η b, .inl (by simp [execOp, ho, e, asBool]), hη _ _ hy⟩
    · cases h
  · rename_i t ho
    exact evAlloc_ok h ho η
  · rename_i t x ho
    split at h
    · rename_i v hv; cases h; exact evBox_ok (hη _ _ hv) ho
    · cases h
  · rename_i t parts ho
    split at h
    · rename_i ps hps; exact evBuild_ok hη hps h ho
    · cases h
  · rename_i t len parts ho
    split at h
    · rename_i ps hps; exact evBuildSlice_ok hη hps h ho
    · cases h
  · rename_i t a ho
    split at h
    · rename_i i off ha
      obtain ⟨y, hy, rfl⟩ := pureO_eq h
      exact evLoad_ok hH (hη _ _ ha) hy ho
    · rename_i i off ha
      obtain ⟨y, hy, rfl⟩ := pureO_eq h
      exact evLoadG_ok hH (hη _ _ ha) hy ho
    · cases h
  · rename_i t a x ho
    split at h
    · rename_i i off v ha hx
      exact evStore_ok hH (hη _ _ ha) (hη _ _ hx) h ho
    · cases h
  · rename_i x ho
    split at h
    · rename_i v hv
      split at h
      · rename_i hn; cases h; exact evNilCheck_ok (hη _ _ hv) hn ho
      · cases h
    · cases h
  · rename_i op t x z t' ho
    split at h
    · rename_i u v hu hv
      obtain ⟨y, hy, rfl⟩ := pureO_eq h
      split at hy
      · rename_i y' hy'
        cases hy
        exact evBin_ok (hη _ _ hu) (hη _ _ hv) hy' ho
      · obtain ⟨f1, f2, f3, f4⟩ := binF_ok (P := P) (σ := σ) TabOK.ok hy
        refine ⟨inst σ y, .inl ?_, f3.vr⟩
        have := f4 t x z w
        rw [← f1.eq (hη _ _ hu), ← f2.eq (hη _ _ hv)] at this
        simp only [execOp, ho]
        rw [Sem.run_bind, this]
        simp
    · cases h
  · rename_i op t x ho
    split at h
    · rename_i v hv
      split at h
      · rename_i hc
        obtain ⟨y, hy, rfl⟩ := pureO_eq h
        exact evUn_ok (hη _ _ hv) hc hy ho
      · obtain ⟨y, hy, rfl⟩ := pureO_eq h
        obtain ⟨f1, f2, f3⟩ := unF_ok (P := P) (σ := σ) TabOK.ok hy
        refine ⟨inst σ y, .inl ?_, f2.vr⟩
        have := f3 w
        rw [← f1.eq (hη _ _ hv)] at this
        simp only [execOp, ho]
        rw [Sem.run_bind, this]
        simp
    · cases h
  · rename_i s d x ho
    split at h
    · rename_i v hv
      split at h
      · rename_i hc
        split at h
        · rename_i y hy
          cases h
          exact evConv_ok (hη _ _ hv) hc hy ho
        · exact evConvH_ok hH (hη _ _ hv) h ho
      · split at h
        · rename_i y hy
          cases h
          obtain ⟨f1, f2, f3⟩ := convF_ok (P := P) (σ := σ) TabOK.ok hy
          refine ⟨inst σ y, .inl ?_, f2.vr⟩
          have := f3 w
          rw [← f1.eq (hη _ _ hv)] at this
          simp only [execOp, ho]
          rw [Sem.run_bind, this]
          simp
        · exact evConvH_ok hH (hη _ _ hv) h ho
    · cases h
  · rename_i t x ho
    split at h
    · rename_i v d hv hd
      split at h
      · cases h
      · rename_i hne; cases h; exact evMakeIface_ok hd (fun ms e => hne ms e) (hη _ _ hv) ho
    · cases h
  · rename_i f first captured ho
    split at h
    · split at h
      · rename_i xs ys h1 h2; cases h; exact evMakeFunc_ok hη h1 h2 ho
      · cases h
    · cases h
  · rename_i t l c ho
    split at h
    · rename_i a b ha hb; exact evMakeSlice_ok (hη _ _ ha) (hη _ _ hb) h ho
    · cases h
  · rename_i t x lo hi mx ho
    split at h
    · split at h
      · rename_i v l hh hv hl hhi
        exact evSlice_ok (hη _ _ hv) (optE_vr hη hl) (optE_vr hη hhi) h ho
      · cases h
    · cases h
  · rename_i s x f ho
    split at h
    · rename_i v hv; exact evFieldAddr_ok (hη _ _ hv) h ho
    · cases h
  · rename_i t x f ho
    split at h
    · rename_i v hv; exact evField_ok (hη _ _ hv) h ho
    · cases h
  · rename_i t x ix ho
    split at h
    · rename_i v i hv hi; exact evIndexAddr_ok (hη _ _ hv) (hη _ _ hi) h ho
    · cases h
  · rename_i t x ix ho
    split at h
    · rename_i v i hv hi; exact evIndex_ok (hη _ _ hv) (hη _ _ hi) h ho
    · cases h
  · rename_i t ix ho
    split at h
    · rename_i cs hcs
      obtain ⟨y, hy, rfl⟩ := pureO_eq h
      exact evExtract_ok (hη _ _ hcs) hy ho
    · cases h
  · rename_i c ho
    exact evCall_ok hH hη h ho
  · rename_i t rs ho
    split at h
    · rename_i x hx; exact evMakeMap_ok (optE_vr hη hx) h ho
    · cases h
  · rename_i t x k ok ho
    split at h
    · rename_i u v hu hv
      obtain ⟨y, hy, rfl⟩ := pureO_eq h
      obtain ⟨u', e1, e2⟩ := evLookup_run hH (hη _ _ hu) (hη _ _ hv) hy
      exact ⟨u', .inl (by simp [execOp, ho, e1]), e2⟩
    · cases h
  · rename_i t m k v ho
    split at h
    · rename_i a b c ha hb hc
      obtain ⟨H', rfl, w', e1, e2, e3⟩ := evMapUpdate_ok hH (hη _ _ ha) (hη _ _ hb) (hη _ _ hc) h
      exact ⟨undef, M, w', .inr ⟨by simp [execOp, ho, e1], rfl⟩, undef_vr, e2, e3⟩
    · cases h
  · rename_i t m k ho
    split at h
    · rename_i a b ha hb
      obtain ⟨v, H', rfl, u, w', e1, e2, e3, e4⟩ := evMapEntry_ok hH (hη _ _ ha) (hη _ _ hb) h
      exact ⟨u, M, w', .inl (by simp [execOp, ho, e1]), e2, e3, e4⟩
    · cases h
  · rename_i t m s v ho
    split at h
    · rename_i a b c ha hb hc
      obtain ⟨H', rfl, w', e1, e2, e3⟩ := evEntryStore_ok (P := P) (t := t) hH (hη _ _ ha) (hη _ _ hb) (hη _ _ hc) h
      exact ⟨undef, M, w', .inr ⟨by simp [execOp, ho, e1], rfl⟩, undef_vr, e2, e3⟩
    · cases h
  · cases h
end
end Go.Proofs.YtahihfhfkjiimaaDoor.Ev
