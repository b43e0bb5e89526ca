/-
  A checked evaluator, part H: calls; the operation as a whole.
-/
import Derived.Test.YtlpepmhpnmnpkaaDoorEvL
set_option linter.unusedVariables false
set_option linter.unusedSimpArgs false
set_option linter.unusedSectionVars false
namespace Go.Proofs.YtlpepmhpnmnpkaaDoor.Ev
open Go Go.RowKit

variable [Tab]
section
variable {P : Program} {M : Mp} {σ : Nat → Value} [TabOK P σ] {H : Tr Blk} {w : World}
theorem evUn_ok {op : UnOp} {t : TypeId} {x : Operand} {η : Operand → Value} {v : Value} (hv : VR M σ v (η x)) (hc : clean v = true) {y : Value} (h : evClean P (Op.unary op v) = some y) {o : Oper} (ho : o.op = .unOp op t x) :
    Snd M σ H w ((execOp η o).run P w) (.pure y) := by
  obtain ⟨h1, h2⟩ := evClean_sound (w := w) h
  rw [← hv.eq_of_clean hc] at h1
  exact ⟨y, .inl (by simp [execOp, ho, h1]), VR.of_clean _ h2⟩
theorem evConv_ok {s d : TypeId} {x : Operand} {η : Operand → Value} {v : Value} (hv : VR M σ v (η x)) (hc : clean v = true) {y : Value} (h : evClean P (convert s d v) = some y) {o : Oper} (ho : o.op = .convert s d x) :
    Snd M σ H w ((execOp η o).run P w) (.pure y) := by
  obtain ⟨h1, h2⟩ := evClean_sound (w := w) h
  rw [← hv.eq_of_clean hc] at h1
  exact ⟨y, .inl (by simp [execOp, ho, h1]), VR.of_clean _ h2⟩
def notNil : Value → Bool
  | .pointer (some _) | .func (.func _) _ _ | .iface _ _ | .int _ _ | .bool _ | .string _ | .agg _ | .slice _ _ _ | .map _ => true
  | _ => false
theorem evNilCheck_ok {x : Operand} {η : Operand → Value} {v : Value} (hv : VR M σ v (η x)) (hn : notNil v = true) {o : Oper} (ho : o.op = .nilCheck x) :
    Snd M σ H w ((execOp η o).run P w) (.pure v) := by
  refine ⟨η x, .inl ?_, hv⟩
  simp only [execOp, ho]
  generalize η x = u at hv
  cases hv <;> first | (simp [notNil] at hn; done) | rfl
theorem evMakeIface_ok {t : TypeId} {d : TypeDesc} (hu : P.underlying t = some d) (hd : ∀ ms, d ≠ .interface ms) {x : Operand} {η : Operand → Value} {v : Value} (hv : VR M σ v (η x)) {o : Oper} (ho : o.op = .makeInterface t x) :
    Snd M σ H w ((execOp η o).run P w) (.pure (.iface t v)) := by
  refine ⟨.iface t (η x), .inl ?_, .iface t hv⟩
  cases d <;> first | (exact absurd rfl (hd _)) | simp [execOp, ho, Instr.makeInterface, run_underlying' hu]
theorem evMakeFunc_ok {f : FuncId} {first captured : Array Operand} {ρ : Operand → Option Value} {η : Operand → Value} (hη : Opd M σ ρ η) {xs ys : List Value} (h1 : opds ρ first.toList = some xs) (h2 : opds ρ captured.toList = some ys)
    {o : Oper} (ho : o.op = .makeFunc (.func f) first captured) : Snd M σ H w ((execOp η o).run P w) (.pure (.func (.func f) ⟨xs⟩ ⟨ys⟩)) := by
  refine ⟨.func (.func f) (first.map η) (captured.map η), .inl (by simp [execOp, ho, Instr.makeFunc]), ?_⟩
  have a := opds_vr hη h1
  have b := opds_vr hη h2
  have e1 : first.map η = ⟨first.toList.map η⟩ := by apply Array.ext'; simp
  have e2 : captured.map η = ⟨captured.toList.map η⟩ := by apply Array.ext'; simp
  rw [e1, e2]
  exact .func f a b

/-! ### calls -/
def bodied (P : Program) (f : FuncId) : Bool :=
  match P.funcs[f]? with
  | some fn => match fn.name == "runtime.NumGoroutine" with
    | true => false
    | false => fn.body.isSome
  | none => false
theorem callFunc_run {f : FuncId} (h : bodied P f = true) (args : Array Value) (w : World) : (callFunc f args).run P w = .ok (.enter f args) w := by
  unfold bodied at h
  split at h
  · rename_i fn hfn
    split at h
    · cases h
    · rename_i hn
      have hb : fn.body ≠ none := by intro e; rw [e] at h; cases h
      have hn' : fn.name ≠ "runtime.NumGoroutine" := by simpa using hn
      simp [callFunc, hfn, hn', hb]
  · cases h
def evLen (P : Program) (t : TypeId) (x : Value) (H : Tr Blk) : Option Value :=
  match P.underlying t, x with
  | some (.slice _), .slice _ n _ => some (goInt n)
  | some .string, .string s => some (goInt s.size)
  | some (.array n _), _ => some (goInt n)
  | some (.map _ _), .map none => some (goInt 0)
  | some (.map _ _), .map (some i) => match H.get (key i) with
    | some (.map es _) => some (goInt es.length)
    | _ => none
  | _, _ => none
theorem evLen_run (hH : HR M σ H.get w) {t : TypeId} {x u y : Value} (h : evLen P t x H = some y) (hx : VR M σ x u) (ty : TypeId) : (Builtin.len_ #[t] ty #[u]).run P w = .ok y w ∧ clean y = true := by
  unfold evLen at h
  split at h
  · rename_i hu; cases h; cases hx <;> exact ⟨by simp [Builtin.len_, run_underlying' hu], rfl⟩
  · rename_i hu; cases h; cases hx; exact ⟨by simp [Builtin.len_, run_underlying' hu], rfl⟩
  · rename_i hu; cases h; exact ⟨by simp [Builtin.len_, run_underlying' hu], rfl⟩
  · rename_i hu; cases h; cases hx; exact ⟨by simp [Builtin.len_, run_underlying' hu], rfl⟩
  · rename_i hu
    split at h
    · rename_i es c hg
      cases h
      cases hx with
      | map hp =>
        obtain ⟨fs, hb, her⟩ := hH.at hg rfl hp
        have hl := her.length
        refine ⟨?_, rfl⟩
        simp [Builtin.len_, run_underlying' hu, MapKept.run_getObj_map hb]
        have : fs.size = es.length := by simpa using hl.symm
        rw [this]
    · cases h
  · cases h
def evCap (P : Program) (t : TypeId) (x : Value) : Option Value :=
  match P.underlying t, x with
  | some (.slice _), .slice none _ n => some (goInt n)
  | some (.slice _), .slice (some ⟨_, _, none⟩) _ n => some (goInt n)
  | _, _ => none
theorem evCap_run {t : TypeId} {x u y : Value} (h : evCap P t x = some y) (hx : VR M σ x u) (ty : TypeId) : (Builtin.cap_ #[t] ty #[u]).run P w = .ok y w ∧ clean y = true := by
  unfold evCap at h
  split at h <;> (try (cases h; done)) <;> rename_i hu <;> cases h
  · cases hx; exact ⟨by simp [Builtin.cap_, run_underlying' hu], rfl⟩
  · cases hx; exact ⟨by simp [Builtin.cap_, run_underlying' hu], rfl⟩
/-- the method of an interface value's own type, where it is no promoted one -/
def methE (P : Program) (t : TypeId) (name : String) : Option FuncId :=
  match P.info? t with
  | some i => match i.methods.find? (·.name == name) with
    | some m => match m.path.toList, m.func with
      | [], some (f, pr) => match P.underlying t with
        | some (.pointer _) => match pr with | true => some f | false => none
        | some _ => match pr with | true => none | false => some f
        | none => none
      | _, _ => none
    | none => none
  | none => none
theorem methE_run {t : TypeId} {name : String} {f : FuncId} (h : methE P t name = some f) (n : Nat) (v : Value) : (method (n + 1) t v name).run P w = .ok (f, v) w := by
  unfold methE at h
  split at h
  · rename_i i hi
    split at h
    · rename_i m hm
      split at h
      · rename_i f' pr hp hf
        have hrec : ∀ (o : Option String), f' = f → (∃ d, P.underlying t = some d ∧ ((∃ e, d = .pointer e) ↔ pr = true)) → (receiverAt t (.val v) pr o).run P w = .ok v w := by
          rintro o - ⟨d, hd, hpr⟩
          cases d <;> cases pr <;> simp at hpr <;> simp [receiverAt, run_underlying' hd, Place.get]
        have hboth : f' = f ∧ (∃ d, P.underlying t = some d ∧ ((∃ e, d = .pointer e) ↔ pr = true)) := by
          split at h
          · rename_i e hu
            cases pr <;> simp at h
            exact ⟨h, _, hu, by simp⟩
          · rename_i d hne hu
            cases pr <;> simp at h
            refine ⟨h, d, by simpa using hu, ?_⟩
            simp only [Bool.false_eq_true, iff_false]
            rintro ⟨e, rfl⟩
            exact hne e rfl
          · cases h
        have hr := hrec (if m.path.isEmpty then some ((name.splitOn ".").getLastD name) else none) hboth.1 hboth.2
        simp only [method, Sem.run_bind, run_typeInfo' hi, Result.andThen_ok, hm, hp, follow, Sem.run_pure, hf, hr]
        rw [hboth.1]
      · cases h
    · cases h
  · cases h
def evC_len (P : Program) (c : Call) (ty : TypeId) (ρ : Operand → Option Value) (H : Tr Blk) (nx : Nat) : Option OpR :=
  match c.argTypes.toList, opds ρ c.args.toList with
    | [t], some [x] => pureO (match evLen P t x H with | some y => some y | none => lenF t x Tab.table)
    | _, _ => none
def evC_cap (P : Program) (c : Call) (ty : TypeId) (ρ : Operand → Option Value) (H : Tr Blk) (nx : Nat) : Option OpR :=
  match c.argTypes.toList, opds ρ c.args.toList with
    | [t], some [x] => pureO (evCap P t x)
    | _, _ => none
def evC_min (P : Program) (c : Call) (ty : TypeId) (ρ : Operand → Option Value) (H : Tr Blk) (nx : Nat) : Option OpR :=
  match opds ρ c.args.toList with
    | some args => match cleans args with
      | true => pureO (evClean P (Builtin.min_ c.argTypes ty ⟨args⟩))
      | false => match args with
        | [x, y] => pureO (mxF false x y Tab.table)
        | _ => none
    | none => none
def evC_max (P : Program) (c : Call) (ty : TypeId) (ρ : Operand → Option Value) (H : Tr Blk) (nx : Nat) : Option OpR :=
  match opds ρ c.args.toList with
    | some args => match cleans args with
      | true => pureO (evClean P (Builtin.max_ c.argTypes ty ⟨args⟩))
      | false => match args with
        | [x, y] => pureO (mxF true x y Tab.table)
        | _ => none
    | none => none
def evC_append (P : Program) (c : Call) (ty : TypeId) (ρ : Operand → Option Value) (H : Tr Blk) (nx : Nat) : Option OpR :=
  match c.argTypes.toList, opds ρ c.args.toList with
    | [s, t], some [x, y] => evAppend P s t x y H nx
    | _, _ => none
def evC_copy (P : Program) (c : Call) (ty : TypeId) (ρ : Operand → Option Value) (H : Tr Blk) (nx : Nat) : Option OpR :=
  match c.argTypes.toList, opds ρ c.args.toList with
    | t :: _, some [x, y] => evCopy P t x y H nx
    | _, _ => none
def evC_delete (P : Program) (c : Call) (ty : TypeId) (ρ : Operand → Option Value) (H : Tr Blk) (nx : Nat) : Option OpR :=
  match c.argTypes.toList, opds ρ c.args.toList with
    | t :: _, some [x, y] => evDelete P t x y H nx
    | _, _ => none
def evC_clear (P : Program) (c : Call) (ty : TypeId) (ρ : Operand → Option Value) (H : Tr Blk) (nx : Nat) : Option OpR :=
  match c.argTypes.toList, opds ρ c.args.toList with
    | t :: _, some [x] => evClear P t x H nx
    | _, _ => none
/-! ### functions without a body -/
theorem digits_one : ∀ (n t : Nat) (acc : Array Value), (∀ v ∈ acc, v.oneCell' = true) → ∀ v ∈ Extern.BytealgMakeNoZero.digits n t acc, v.oneCell' = true
  | 0, _, _, h => h
  | n + 1, t, acc, h => by
    rw [Extern.BytealgMakeNoZero.digits]
    refine digits_one n _ _ fun v hv => ?_
    rw [Array.mem_push] at hv
    rcases hv with hv | rfl
    · exact h v hv
    · rfl
theorem run_mkNZ (w : World) (ps : Array TypeId) (t e : TypeId) (ht : P.underlying t = some (.slice e)) (n : Nat) (hn : n ≤ 1048576) :
    ∃ (cs : Array Value), (∀ v ∈ cs, v.oneCell' = true) ∧ n ≤ cs.size ∧ (Extern.BytealgMakeNoZero.makeNoZero ps #[t] #[.int .i64 n]).run P w = .ok (.slice (some ⟨w.heap.size, 0, none⟩) n cs.size) (w.drew.drew.alloc (.cells cs e)) := by
  have h1 : ¬ (n : Int) < 0 := by omega
  have h2 : ¬ (281474976710656 : Int) < (n : Int) := by omega
  refine ⟨Extern.BytealgMakeNoZero.digits (grownCap w n 0 e) ((Question.extern "internal/bytealg.MakeNoZero.bytes" 0).cut (w.tape (w.drawn + 1) (.extern "internal/bytealg.MakeNoZero.bytes" 0))) #[], digits_one _ _ _ (by simp), ?_, ?_⟩
  · rw [Lib.size_digits]; simpa using grownCap_ge w n 0 e
  · change Sem.run P (Bind.bind (underlying t) _) w = _
    simp [run_underlying' ht, h1, h2, Question.forced, newRow, Lib.size_digits, grownCap]
def mkNZE (e : TypeId) (n : Int) (H : Tr Blk) (nx : Nat) : Option OpR :=
  match n with
  | .ofNat m => match Nat.ble m 1048576, H.get (key nx) with
    | true, none => some (.upd (grownTo 1 m nx) (H.set (key nx) (.cells e (List.replicate m (.chan none)))) (nx + 1))
    | _, _ => none
  | .negSucc _ => none
def extF (P : Program) (f : FuncId) (args : List Value) (H : Tr Blk) (nx : Nat) : List Fact → Option OpR
  | [] => none
  | .same f' :: l => match Nat.beq f f' with
    | true => match args with
      | [x] => some (.upd x H nx)
      | _ => none
    | false => extF P f args H nx l
  | .mkNZ f' e :: l => match Nat.beq f f' with
    | true => match args with
      | [.int .i64 n] => mkNZE e n H nx
      | _ => none
    | false => extF P f args H nx l
  | .ext f' g :: l => match Nat.beq f f' with
    | true => match cleans args with
      | true => match evClean P (g ⟨args⟩) with
        | some y => some (.upd y H nx)
        | none => none
      | false => none
    | false => extF P f args H nx l
  | _ :: l => extF P f args H nx l
theorem extF_ok (hH : HR M σ H.get w) {f : FuncId} {args vs : List Value} (hvs : VRs M σ args vs) {nx : Nat} : ∀ (l : List Fact), (∀ g ∈ l, g.Holds P σ) → ∀ {r : OpR}, extF P f args H nx l = some r → Snd M σ H w ((callFunc f vs.toArray).run P w) r
  | [], _, r, h => by cases h
  | g :: l, hl, r, h => by
    have ih : ∀ {r : OpR}, extF P f args H nx l = some r → Snd M σ H w ((callFunc f vs.toArray).run P w) r := fun h => extF_ok hH hvs l (fun g hg => hl g (List.mem_cons_of_mem _ hg)) h
    have hg := hl g (List.mem_cons_self)
    cases g with
    | same f' =>
      simp only [extF] at h
      split at h
      · rename_i hf
        have := Nat.eq_of_beq_eq_true hf
        subst this
        split at h
        · rename_i x
          cases h
          cases hvs with
          | cons hx h0 => cases h0; exact ⟨_, M, w, .inl (hg _ w), hx, hH, Stp.refl _ _ _⟩
        · cases h
      · exact ih h
    | mkNZ f' e =>
      simp only [extF] at h
      split at h
      · rename_i hf
        have := Nat.eq_of_beq_eq_true hf
        subst this
        split at h
        · rename_i n
          obtain ⟨ps, t, ht, hrun⟩ := hg
          cases hvs with
          | cons hx h0 =>
            cases h0
            cases hx
            unfold mkNZE at h
            split at h
            · rename_i m
              split at h
              · rename_i hm hf
                cases h
                have hm := Nat.le_of_ble_eq_true hm
                have hM := hH.unplaced hf
                obtain ⟨cs, c1, c2, c3⟩ := run_mkNZ (P := P) w ps t e ht m hm
                have hb : BR (ins M (key nx) ⟨w.drew.drew.heap.size, 0, cs.size⟩) σ (.cells e (List.replicate m (.chan none))) ⟨w.drew.drew.heap.size, 0, cs.size⟩ (w.drew.drew.alloc (.cells cs e)) :=
                  BR.row (by simpa using c2) fun j x hj => by
                    obtain ⟨hj1, hj2⟩ := List.getElem?_eq_some_iff.1 hj
                    rw [List.getElem_replicate] at hj2
                    subst hj2
                    rw [List.length_replicate] at hj1
                    have hj3 : j < cs.size := by omega
                    exact ⟨cs[j], Array.getElem?_eq_getElem hj3, .any _ (c1 _ (Array.getElem_mem hj3))⟩
                refine ⟨.slice (some ⟨w.heap.size, 0, none⟩) m cs.size, ins M (key nx) ⟨w.drew.drew.heap.size, 0, cs.size⟩, w.drew.drew.alloc (.cells cs e), .inl ?_, ?_, ?_, ?_⟩
                · have e1 : (Value.int .i64 (Int.ofNat m)) = .int .i64 (m : Int) := rfl
                  rw [hrun, e1, Sem.run_bind, c3]
                  simp
                · have := VR.grown (σ := σ) 0 1 m m cs.size (ins_same M (key nx) ⟨w.drew.drew.heap.size, 0, cs.size⟩) (Nat.le_refl _) c2 (by simp)
                  simpa [grownTo] using this
                · rw [Tr.get_upd]; exact hH.drew.drew.make hM hb
                · rw [Tr.get_upd]; exact (Stp.drew.trans Stp.drew).alloc hM hf _ _ _
              · cases h
            · cases h
        · cases h
      · exact ih h
    | ext f' g =>
      simp only [extF] at h
      split at h
      · rename_i hf
        have := Nat.eq_of_beq_eq_true hf
        subst this
        split at h
        · rename_i hc
          split at h
          · rename_i y hy
            cases h
            have := hvs.eq_of_clean hc
            subst this
            obtain ⟨h1, h2⟩ := evClean_sound (P := P) (w := w) hy
            refine ⟨y, M, w, .inl ?_, VR.of_clean _ h2, hH, Stp.refl _ _ _⟩
            rw [hg _ w, Sem.run_bind, h1]
            simp
          · cases h
        · cases h
      · exact ih h
    | bin => exact ih (by simpa only [extF] using h)
    | len => exact ih (by simpa only [extF] using h)
    | conv => exact ih (by simpa only [extF] using h)
    | call => exact ih (by simpa only [extF] using h)
    | un => exact ih (by simpa only [extF] using h)
    | seq => exact ih (by simpa only [extF] using h)
    | mx => exact ih (by simpa only [extF] using h)
    | bld => exact ih (by simpa only [extF] using h)
    | st => exact ih (by simpa only [extF] using h)
/-! ### package unsafe -/
theorem freeze_old (w : World) (a : Addr) (n j : Nat) (h : j ≠ a.block) : (w.freeze a n).heap[j]? = w.heap[j]? := by
  unfold World.freeze
  split
  · rfl
  · simp only [Array.getElem?_modify]; rw [if_neg (fun e => h e.symm)]
theorem freeze_os (w : World) (a : Addr) (n : Nat) : (w.freeze a n).os = w.os := by unfold World.freeze; split <;> rfl
theorem freeze_tape (w : World) (a : Addr) (n : Nat) : (w.freeze a n).tape = w.tape := by unfold World.freeze; split <;> rfl
theorem freeze_output (w : World) (a : Addr) (n : Nat) : (w.freeze a n).output = w.output := by unfold World.freeze; split <;> rfl
theorem freeze_size (w : World) (a : Addr) (n : Nat) : (w.freeze a n).heap.size = w.heap.size := by unfold World.freeze; split <;> simp
omit [Tab] in
theorem inK_u8 {n : Int} (h : inK .u8 n = true) : 0 ≤ n ∧ n ≤ 255 := by
  simp only [inK] at h
  split at h
  · have := Nat.le_of_ble_eq_true h; simp; omega
  · cases h
theorem cellsE_le {i o n : Nat} {ys : List Value} {t : TypeId} {xs : List Value} (h : cellsE H i o n = some ys) (hg : H.get (key i) = some (.cells t xs)) (hn : n ≠ 0) : o + n ≤ xs.length := by
  unfold cellsE at h
  rw [hg] at h
  obtain ⟨hl, hj⟩ := takeE_get h
  have e := hj (n - 1) (by omega)
  rw [List.getElem?_drop] at e
  have hx : ys[n - 1]? = some (ys[n - 1]'(by omega)) := List.getElem?_eq_getElem (by omega)
  rw [hx] at e
  have := (List.getElem?_eq_some_iff.1 e.symm).1
  omega
def evC_sliceData (P : Program) (c : Call) (ρ : Operand → Option Value) (H : Tr Blk) (nx : Nat) : Option OpR :=
  match opds ρ c.args.toList with
  | some [.slice (some ⟨i, o, _⟩) _ cp] => match Nat.blt 0 cp with
    | true => some (.upd (.pointer (some ⟨i, o, none⟩)) H nx)
    | false => none
  | some [.slice none _ _] => some (.upd (.pointer none) H nx)
  | _ => none
def strOf (P : Program) (pt : TypeId) (i o m : Nat) (H : Tr Blk) (nx : Nat) : Option OpR :=
  match H.get (key i), P.underlying pt, cellsE H i o m with
  | some (.cells t _), some (.pointer e), some ys => match Nat.beq t e, Nat.beq (P.cellsOf e) 1, bytesOfE ys with
    | true, true, some ns => match ns.all (inK .u8), Nat.ble m 1073741824 with
      | true, true => some (.upd (.string (mkStr ns)) (H.set (key i) .dead) nx)
      | _, _ => none
    | _, _, _ => none
  | _, _, _ => none
def evC_str (P : Program) (c : Call) (ρ : Operand → Option Value) (H : Tr Blk) (nx : Nat) : Option OpR :=
  match c.argTypes.toList, opds ρ c.args.toList with
  | [pt, _], some [p, .int .i64 n] => match n with
    | .ofNat m => match m with
      | 0 => match p with
        | .pointer none => some (.upd (.string .empty) H nx)
        | .pointer (some ⟨_, _, none⟩) => some (.upd (.string .empty) H nx)
        | _ => none
      | m' + 1 => match p with
        | .pointer (some ⟨i, o, none⟩) => strOf P pt i o (m' + 1) H nx
        | _ => none
    | .negSucc _ => none
  | _, _ => none
theorem lies_bytes {e : TypeId} (hc : P.cellsOf e = 1) {count off n : Nat} (h : off + n ≤ count) : liesAt P P.depth e count off e n = true := by
  obtain ⟨d, hd⟩ : ∃ d, P.depth = d + 1 := ⟨_, rfl⟩
  have hs : sameLayout P P.depth e e = true := by rw [hd]; simp [sameLayout]
  have hr : rowAt P (sameLayout P P.depth · e) P.depth e count off n = true := by
    rw [hd, rowAt]
    rw [hd] at hs
    simp [hc, h, hs, Nat.mod_one]
  have : liesAt P (d + 1) e count off e n = true := by
    rw [liesAt, hr]; rfl
  rw [← hd] at this
  exact this
theorem run_strOf (w : World) (pt it ty e : TypeId) (hp : P.underlying pt = some (.pointer e)) (hc : P.cellsOf e = 1) (g off cells : Nat) (hsh : w.shape? g = some (e, cells)) (l : List UInt8) (h0 : l ≠ []) (hn : off + l.length ≤ cells) (h63 : l.length ≤ 9223372036854775807)
    (hcell : ∀ j x, l[j]? = some x → w.cell? ((⟨g, off, none⟩ : Addr).add j) = some (.int .u8 x.toNat)) :
    (Builtin.unsafeString_ #[pt, it] ty #[.pointer (some ⟨g, off, none⟩), .int .i64 l.length]).run P w = .ok (.string ⟨l.toArray⟩) (w.freeze ⟨g, off, none⟩ l.length) := by
  have hl : l.length ≠ 0 := by simpa using h0
  have hlb := Lib.run_loadBytes (P := P) w l ⟨g, off, none⟩ .empty hcell
  have hlies := lies_bytes (P := P) hc (count := cells / P.cellsOf e) (off := off) (n := l.length) (by rw [hc]; simpa using hn)
  have h63' : ¬ (9223372036854775807 : Int) < (l.length : Int) := by omega
  have hmax : IntKind.i64.max = 9223372036854775807 := rfl
  have hneg : ¬ (l.length : Int) < 0 := by omega
  change Sem.run P (Bind.bind (asInt (.int .i64 l.length)) _) w = _
  simp [asInt, asIntOf, hmax, h63', hneg, hl, variablesAt, hsh, elemOf, run_underlying' hp, hlies, hlb]
theorem strOf_ok (hH : HR M σ H.get w) {pt it ty : TypeId} {i o m nx : Nat} {p : Place} (hp : M (key i) = some p) (hm : m ≠ 0) {r : OpR} (h : strOf P pt i o m H nx = some r) :
    ∃ u H' w', r = .upd u H' nx ∧ (Builtin.unsafeString_ #[pt, it] ty #[.pointer (some ⟨p.b, p.s + o, none⟩), .int .i64 (m : Int)]).run P w = .ok u w' ∧ VR M σ u u ∧ HR M σ H'.get w' ∧ Stp M H.get w M H'.get w' := by
  unfold strOf at h
  split at h
  · rename_i t xs e ys hg hpt hys
    split at h
    · rename_i ns hte hce hns
      split at h
      · rename_i hall hmb
        cases h
        have := Nat.eq_of_beq_eq_true hte
        subst this
        have hce := Nat.eq_of_beq_eq_true hce
        have hmb := Nat.le_of_ble_eq_true hmb
        obtain ⟨vs, h1, h2, h3⟩ := cellsE_run hH hys hp
        have he2 := bytesOfE_eq hns
        have hcl : ∀ ns : List Int, cleans (ns.map (Value.int .u8)) = true := fun ns => by induction ns with
          | nil => rfl
          | cons n ns ih => simp [cleans, clean, ih]
        have hvs := h2.eq_of_clean (by rw [he2]; exact hcl ns)
        obtain ⟨c, fr, b1, b0, bs, b2, b3, b4⟩ := hH.at hg rfl hp
        have hsh : w.shape? p.b = some (t, c.size) := by simp [World.shape?, b1]
        have hlen : ns.length = m := by
          have e1 := congrArg List.length hvs
          have e2 := congrArg List.length he2
          simp only [List.length_map] at e1 e2
          omega
        have hys0 := cellsE_le hys hg hm
        have hrun := run_strOf (P := P) w pt it ty t hpt hce p.b (p.s + o) c.size hsh (mkStr ns).data.toList (by
            intro e0
            have := congrArg List.length e0
            simp [mkStr, hlen] at this
            exact hm this) (by simp [mkStr, hlen]; omega) (by simp [mkStr, hlen]; omega) (by
            intro j x hj
            rw [addr_add]
            simp only [mkStr, List.getElem?_map, Option.map_eq_some_iff] at hj
            obtain ⟨k, hk, rfl⟩ := hj
            have hv : vs[j]? = some (.int .u8 k) := by rw [hvs, he2, List.getElem?_map, hk]; rfl
            rw [h3 j _ hv]
            have hin := List.all_eq_true.1 hall k (List.mem_of_getElem? hk)
            have := inK_u8 hin
            congr 2
            rw [UInt8.toNat_ofNat']
            have e8 : (2 : Nat) ^ 8 = 256 := rfl
            omega)
        have hls : (mkStr ns).data.toList.length = m := by simp [mkStr, hlen]
        rw [hls] at hrun
        refine ⟨_, _, _, rfl, hrun, ?_, ?_, ?_⟩
        · exact .str _
        · rw [Tr.get_upd]
          refine (hH.kill (key i) hg).keep (fun k' b' q g l m' => freeze_old w _ m _ fun e' => ?_) fun x hx => freeze_old w _ m _ fun e' => (hH.gl x hx).2 _ _ p hg rfl hp e'.symm
          by_cases ek : k' = key i
          · subst ek; rw [upd_same] at g; cases g; cases l
          · rw [upd_other _ _ ek] at g
            exact ek (hH.inj k' (key i) b' _ q p g l hg rfl m' hp e')
        · rw [Tr.get_upd]
          have hk := Stp.kill (M := M) (w := w) (key i) hg
          exact ⟨Le.refl _, freeze_os w _ m, freeze_tape w _ m, freeze_output w _ m, by rw [freeze_size]; exact Nat.le_refl _, fun j hj hno => freeze_old w _ m j fun e' => hno (key i) _ p hg rfl hp e'.symm, hk.dead, fun _ _ h => .inl h, hk.grow, hk.own⟩
      · cases h
    · cases h
  · cases h
/-- builtins of plain values -/
def evC_pure (P : Program) (c : Call) (s : Array Value → Sem Value) (ρ : Operand → Option Value) (H : Tr Blk) (nx : Nat) : Option OpR :=
  match opds ρ c.args.toList with
  | some args => match cleans args with
    | true => match evClean P (s ⟨args⟩) with
      | some y => some (.upd y H nx)
      | none => none
    | false => none
  | none => none
theorem evC_pure_ok (hH : HR M σ H.get w) {c : Call} {s : Array Value → Sem Value} {ρ : Operand → Option Value} {η : Operand → Value} (hη : Opd M σ ρ η) {nx : Nat} {r : OpR} (h : evC_pure P c s ρ H nx = some r) :
    ∃ y, r = .upd y H nx ∧ (s ⟨c.args.toList.map η⟩).run P w = .ok y w ∧ VR M σ y y := by
  unfold evC_pure at h
  split at h
  · rename_i args hargs
    split at h
    · rename_i hc
      split at h
      · rename_i y hy
        cases h
        have har := opds_vr hη hargs
        rw [har.eq_of_clean hc]
        obtain ⟨h1, h2⟩ := evClean_sound (P := P) (w := w) hy
        exact ⟨y, rfl, h1, VR.of_clean _ h2⟩
      · cases h
    · cases h
  · cases h
def evC_value (P : Program) (c : Call) (g : Operand) (ρ : Operand → Option Value) (H : Tr Blk) (nx : Nat) : Option OpR :=
  match ρ g, opds ρ c.args.toList with
    | some (.func (.func f) ⟨first⟩ ⟨captured⟩), some args => match bodied P f with
      | true => some (.call (.fn f) (first ++ args ++ captured))
      | false => extF P f (first ++ args ++ captured) H nx Tab.table
    | some (.func (.yield l) ⟨[]⟩ ⟨[]⟩), some args => match H.get (key l) with
      | some (.loop _ _ _ _ ps _ _ _) => match Nat.beq args.length ps.toList.length with
        | true => some (.call (.yield l) args)
        | false => none
      | _ => none
    | _, _ => none
def evC_invoke (P : Program) (c : Call) (x : Operand) (name : String) (ρ : Operand → Option Value) : Option OpR :=
  match ρ x, opds ρ c.args.toList with
    | some (.iface t v), some args => match methE P t name with
      | some f => match bodied P f with
        | true => some (.call (.fn f) (v :: args))
        | false => none
      | none => none
    | _, _ => none
def evC_builtin (P : Program) (c : Call) (ty : TypeId) (ρ : Operand → Option Value) (H : Tr Blk) (nx : Nat) (b : Builtin) : Option OpR :=
  match b with
    | .len => evC_len P c ty ρ H nx
    | .cap => evC_cap P c ty ρ H nx
    | .min => evC_min P c ty ρ H nx
    | .max => evC_max P c ty ρ H nx
    | .append => evC_append P c ty ρ H nx
    | .copy => evC_copy P c ty ρ H nx
    | .delete => evC_delete P c ty ρ H nx
    | .clear => evC_clear P c ty ρ H nx
    | .unsafeSliceData => evC_sliceData P c ρ H nx
    | .unsafeString => evC_str P c ρ H nx
    | .complex => evC_pure P c (Builtin.complex_ c.argTypes ty) ρ H nx
    | .real => evC_pure P c (Builtin.real_ c.argTypes ty) ρ H nx
    | .imag => evC_pure P c (Builtin.imag_ c.argTypes ty) ρ H nx
    | _ => none
def evCall (P : Program) (c : Call) (ty : TypeId) (ρ : Operand → Option Value) (H : Tr Blk) (nx : Nat) : Option OpR :=
  match c.callee with
  | .value g => evC_value P c g ρ H nx
  | .builtin b => evC_builtin P c ty ρ H nx b
  | .invoke x name => evC_invoke P c x name ρ
omit [Tab] in
theorem map_eq {α β : Type} (a : Array α) (f : α → β) : a.map f = ⟨a.toList.map f⟩ := by apply Array.ext'; simp
omit [Tab] in
theorem one_of {α : Type} {a : Array α} {x : α} (h : a.toList = [x]) : a = #[x] := by apply Array.ext'; simpa using h
theorem two_of {x y : Value} {l : List Value} (h : VRs M σ [x, y] l) : ∃ x' y', l = [x', y'] ∧ VR M σ x x' ∧ VR M σ y y' := by
  cases h with
  | cons h1 h2 => cases h2 with
    | cons h3 h4 => cases h4; exact ⟨_, _, rfl, h1, h3⟩
theorem evCall_ok (hH : HR M σ H.get w) {c : Call} {ρ : Operand → Option Value} {η : Operand → Value} (hη : Opd M σ ρ η) {o : Oper} {r : OpR} {nx : Nat} (h : evCall P c o.type ρ H nx = some r) (ho : o.op = .call c) :
    Snd M σ H w ((execOp η o).run P w) r := by
  unfold evCall at h
  split at h
  · rename_i g hg
    unfold evC_value at h
    split at h
    · rename_i f first captured args hf hargs
      split at h
      · rename_i hb
        cases h
        have hfr := hη _ _ hf
        have har := opds_vr hη hargs
        generalize hgg : η g = gv at hfr
        cases hfr with
        | func _ h1 h2 =>
          rename_i us vs
          refine ⟨us ++ c.args.toList.map η ++ vs, ?_, (h1.append har).append h2⟩
          simp only [execOp, ho, resolve, hg, hgg, Deferred.ofValue, Sem.run_bind, Sem.run_pure, Result.andThen_ok, invoke]
          rw [callFunc_run hb]
          congr 2
          rw [map_eq]
          apply Array.ext'
          simp
      · have hfr := hη _ _ hf
        have har := opds_vr hη hargs
        generalize hgg : η g = gv at hfr
        cases hfr with
        | func _ h1 h2 =>
          rename_i us vs
          have := extF_ok (P := P) hH ((h1.append har).append h2) Tab.table TabOK.ok h
          have e1 : (execOp η o).run P w = (callFunc f (us ++ c.args.toList.map η ++ vs).toArray).run P w := by
            simp only [execOp, ho, resolve, hg, hgg, Deferred.ofValue, Sem.run_bind, Sem.run_pure, Result.andThen_ok, invoke]
            congr 2
            rw [map_eq]
            apply Array.ext'
            simp
          rw [e1]
          exact this
    · rename_i l args hf hargs
      split at h
      · rename_i st pe tm nt ps asg body df hg'
        split at h
        · rename_i hlen
          cases h
          have hfr := hη _ _ hf
          have har := opds_vr hη hargs
          generalize hgg : η g = gv at hfr
          cases hfr with
          | yield hm =>
            rename_i p
            obtain ⟨L, h1, h2, h3, h4, h5, -⟩ := hH.at hg' rfl hm
            refine ⟨c.args.toList.map η, p, L, hm, h1, ?_, har⟩
            have hsz : (c.args.map η).size = L.params.size := by
              have := har.length
              have h6 := Nat.eq_of_beq_eq_true hlen
              rw [h5]
              simp only [Array.size_map, List.length_map, Array.length_toList] at this h6 ⊢
              omega
            simp only [execOp, ho, resolve, hg, hgg, Deferred.ofValue, Sem.run_bind, Sem.run_pure, Result.andThen_ok, invoke, Instr.yield]
            have hget : (Instr.getLoop p.b).run P w = .ok L w := by
              simp only [Instr.getLoop, getObj, Sem.run_bind, Sem.run, h1, Result.andThen_ok]
              rfl
            rw [hget]
            simp only [Result.andThen_ok, Array.empty_append, hsz, ne_eq, not_true, if_false, Sem.run_pure, Sem.run_bind]
            congr 2
            unfold roundTmps
            rw [map_eq]
        · cases h
      · cases h
    · cases h
  · rename_i b hb
    unfold evC_builtin at h
    split at h
    · unfold evC_len at h
      split at h
      · rename_i t x ht hx
        obtain ⟨y, hy, rfl⟩ := pureO_eq h
        have har := opds_vr hη hx
        have hl := har.length
        obtain ⟨z, hz⟩ : ∃ z, c.args.toList.map η = [z] := by
          match h3 : c.args.toList.map η, hl with
          | [z], _ => exact ⟨z, rfl⟩
        rw [hz] at har
        cases har with
        | cons hxz _ =>
          split at hy
          · rename_i y' hy'
            cases hy
            obtain ⟨e1, e2⟩ := evLen_run (P := P) (w := w) hH hy' hxz o.type
            refine ⟨y, .inl ?_, VR.of_clean _ e2⟩
            simp only [execOp, ho, resolve, hb, Sem.run_bind, Sem.run_pure, Result.andThen_ok, invoke, builtin, one_of ht, map_eq, hz, e1]
          · obtain ⟨f1, f2, f3⟩ := lenF_ok (P := P) (σ := σ) TabOK.ok hy
            refine ⟨inst σ y, .inl ?_, f2.vr⟩
            rw [f1.eq hxz] at hz
            simp only [execOp, ho, resolve, hb, Sem.run_bind, Sem.run_pure, Result.andThen_ok, invoke, builtin, one_of ht, map_eq, hz, f3]
      · cases h
    · unfold evC_cap at h
      split at h
      · rename_i t x ht hx
        obtain ⟨y, hy, rfl⟩ := pureO_eq h
        have har := opds_vr hη hx
        have hl := har.length
        obtain ⟨z, hz⟩ : ∃ z, c.args.toList.map η = [z] := by
          match h3 : c.args.toList.map η, hl with
          | [z], _ => exact ⟨z, rfl⟩
        rw [hz] at har
        cases har with
        | cons hxz _ =>
          obtain ⟨e1, e2⟩ := evCap_run (P := P) (w := w) hy hxz o.type
          refine ⟨y, .inl ?_, VR.of_clean _ e2⟩
          simp only [execOp, ho, resolve, hb, Sem.run_bind, Sem.run_pure, Result.andThen_ok, invoke, builtin, one_of ht, map_eq, hz, e1]
      · cases h
    · unfold evC_min at h
      split at h
      · rename_i args hargs
        split at h
        · rename_i hc
          obtain ⟨y, hy, rfl⟩ := pureO_eq h
          have e := (opds_vr hη hargs).eq_of_clean hc
          obtain ⟨h1, h2⟩ := evClean_sound (w := w) hy
          refine ⟨y, .inl ?_, VR.of_clean _ h2⟩
          simp only [execOp, ho, resolve, hb, Sem.run_bind, Sem.run_pure, Result.andThen_ok, invoke, builtin, map_eq, e, h1]
        · split at h
          · rename_i x y hc
            obtain ⟨r, hr, rfl⟩ := pureO_eq h
            obtain ⟨x', y', hz, hxx, hyy⟩ := two_of (opds_vr hη hargs)
            obtain ⟨f1, f2, f3, f4⟩ := mxF_ok (P := P) (σ := σ) TabOK.ok hr
            have f5 := f4 c.argTypes o.type w
            simp only [if_true, Bool.false_eq_true, if_false] at f5
            refine ⟨inst σ r, .inl ?_, f3.vr⟩
            rw [f1.eq hxx, f2.eq hyy] at hz
            simp only [execOp, ho, resolve, hb, Sem.run_bind, Sem.run_pure, Result.andThen_ok, invoke, builtin, map_eq, hz, f5]
          · cases h
      · cases h
    · unfold evC_max at h
      split at h
      · rename_i args hargs
        split at h
        · rename_i hc
          obtain ⟨y, hy, rfl⟩ := pureO_eq h
          have e := (opds_vr hη hargs).eq_of_clean hc
          obtain ⟨h1, h2⟩ := evClean_sound (w := w) hy
          refine ⟨y, .inl ?_, VR.of_clean _ h2⟩
          simp only [execOp, ho, resolve, hb, Sem.run_bind, Sem.run_pure, Result.andThen_ok, invoke, builtin, map_eq, e, h1]
        · split at h
          · rename_i x y hc
            obtain ⟨r, hr, rfl⟩ := pureO_eq h
            obtain ⟨x', y', hz, hxx, hyy⟩ := two_of (opds_vr hη hargs)
            obtain ⟨f1, f2, f3, f4⟩ := mxF_ok (P := P) (σ := σ) TabOK.ok hr
            have f5 := f4 c.argTypes o.type w
            simp only [if_true, Bool.false_eq_true, if_false] at f5
            refine ⟨inst σ r, .inl ?_, f3.vr⟩
            rw [f1.eq hxx, f2.eq hyy] at hz
            simp only [execOp, ho, resolve, hb, Sem.run_bind, Sem.run_pure, Result.andThen_ok, invoke, builtin, map_eq, hz, f5]
          · cases h
      · cases h
    · unfold evC_append at h
      split at h
      · rename_i s t x y ht hx
        obtain ⟨x', y', hz, hxx, hyy⟩ := two_of (opds_vr hη hx)
        obtain ⟨v, H', nx', rfl, u, M', w', e1, e2, e3, e4⟩ := evAppend_ok (ty := o.type) hH hxx hyy h
        refine ⟨u, M', w', .inl ?_, e2, e3, e4⟩
        have ht' : c.argTypes = #[s, t] := by apply Array.ext'; simpa using ht
        simp only [execOp, ho, resolve, hb, Sem.run_bind, Sem.run_pure, Result.andThen_ok, invoke, builtin, ht', map_eq, hz, e1]
      · cases h
    · unfold evC_copy at h
      split at h
      · rename_i t ts x y ht hx
        obtain ⟨x', y', hz, hxx, hyy⟩ := two_of (opds_vr hη hx)
        obtain ⟨v, H', rfl, u, w', e1, e2, e3, e4⟩ := evCopy_ok (ty := o.type) (ts := ts) hH hxx hyy h
        refine ⟨u, M, w', .inl ?_, e2, e3, e4⟩
        have ht' : c.argTypes = ⟨t :: ts⟩ := by apply Array.ext'; simpa using ht
        simp only [execOp, ho, resolve, hb, Sem.run_bind, Sem.run_pure, Result.andThen_ok, invoke, builtin, ht', map_eq, hz, e1]
      · cases h
    · unfold evC_delete at h
      split at h
      · rename_i t ts x y ht hx
        obtain ⟨x', y', hz, hxx, hyy⟩ := two_of (opds_vr hη hx)
        obtain ⟨H', rfl, w', e1, e3, e4⟩ := evDelete_ok (ty := o.type) (ts := ts) hH hxx hyy h
        refine ⟨.tuple #[], M, w', .inl ?_, .tuple .nil, e3, e4⟩
        have ht' : c.argTypes = ⟨t :: ts⟩ := by apply Array.ext'; simpa using ht
        simp only [execOp, ho, resolve, hb, Sem.run_bind, Sem.run_pure, Result.andThen_ok, invoke, builtin, ht', map_eq, hz, e1]
      · cases h
    · unfold evC_clear at h
      split at h
      · rename_i t ts x ht hx
        have har := opds_vr hη hx
        obtain ⟨x', hz, hxx⟩ : ∃ x', c.args.toList.map η = [x'] ∧ VR M σ x x' := by
          generalize c.args.toList.map η = l at har
          cases har with
          | cons h1 h2 => cases h2; exact ⟨_, rfl, h1⟩
        obtain ⟨H', rfl, w', e1, e3, e4⟩ := evClear_ok (ty := o.type) (ts := ts) hH hxx h
        refine ⟨.tuple #[], M, w', .inl ?_, .tuple .nil, e3, e4⟩
        have ht' : c.argTypes = ⟨t :: ts⟩ := by apply Array.ext'; simpa using ht
        simp only [execOp, ho, resolve, hb, Sem.run_bind, Sem.run_pure, Result.andThen_ok, invoke, builtin, ht', map_eq, hz, e1]
      · cases h
    · unfold evC_sliceData at h
      split at h
      · rename_i i off sp l cp hx
        split at h
        · rename_i hcp
          cases h
          have hcp := blt_lt hcp
          have har := opds_vr hη hx
          generalize hl : c.args.toList.map η = l' at har
          cases har with
          | cons hv h0 =>
            cases h0
            cases hv with
            | slice _ _ _ hp =>
              rename_i p
              have e1 := Lib.run_unsafeSliceData_row (P := P) w c.argTypes o.type ⟨p.b, p.s + off, none⟩ l cp (by omega)
              refine ⟨.pointer (some ⟨p.b, p.s + off, none⟩), M, w, .inl ?_, .ptr off hp, hH, Stp.refl _ _ _⟩
              simp only [execOp, ho, resolve, hb, Sem.run_bind, Sem.run_pure, Result.andThen_ok, invoke, builtin, map_eq, hl, e1]
            | grown _ e _ _ c' hp hlm hmc hcn =>
              rename_i p
              have e1 := Lib.run_unsafeSliceData_row (P := P) w c.argTypes o.type ⟨p.b, p.s + off, none⟩ l c' (by omega)
              refine ⟨.pointer (some ⟨p.b, p.s + off, none⟩), M, w, .inl ?_, .ptr off hp, hH, Stp.refl _ _ _⟩
              simp only [execOp, ho, resolve, hb, Sem.run_bind, Sem.run_pure, Result.andThen_ok, invoke, builtin, map_eq, hl, e1]
        · cases h
      · rename_i l cp hx
        cases h
        have har := opds_vr hη hx
        generalize hl : c.args.toList.map η = l' at har
        cases har with
        | cons hv h0 =>
          cases h0
          cases hv
          have e1 := Lib.run_unsafeSliceData_nil (P := P) w c.argTypes o.type l cp
          refine ⟨.pointer none, M, w, .inl ?_, .nilp, hH, Stp.refl _ _ _⟩
          simp only [execOp, ho, resolve, hb, Sem.run_bind, Sem.run_pure, Result.andThen_ok, invoke, builtin, map_eq, hl, e1]
      · cases h
    · unfold evC_str at h
      split at h
      · rename_i pt it pv n ht hx
        have ht' : c.argTypes = #[pt, it] := by apply Array.ext'; simpa using ht
        have har := opds_vr hη hx
        generalize hl : c.args.toList.map η = l' at har
        cases har with
        | cons hv h0 => cases h0 with
          | cons hi h00 =>
            cases h00
            cases hi
            have zero : ∀ a : Option Addr, (Builtin.unsafeString_ #[pt, it] o.type #[.pointer a, .int .i64 (Int.ofNat 0)]).run P w = .ok (.string .empty) w := fun a => Lib.run_unsafeString_none (P := P) w pt it o.type a
            split at h
            · rename_i m
              split at h
              · split at h
                · cases h
                  cases hv
                  refine ⟨.string .empty, M, w, .inl ?_, .str _, hH, Stp.refl _ _ _⟩
                  simp only [execOp, ho, resolve, hb, Sem.run_bind, Sem.run_pure, Result.andThen_ok, invoke, builtin, map_eq, hl, ht', zero]
                · cases h
                  cases hv
                  refine ⟨.string .empty, M, w, .inl ?_, .str _, hH, Stp.refl _ _ _⟩
                  simp only [execOp, ho, resolve, hb, Sem.run_bind, Sem.run_pure, Result.andThen_ok, invoke, builtin, map_eq, hl, ht', zero]
                · cases h
              · rename_i m'
                split at h
                · rename_i i off
                  cases hv with
                  | ptr _ hp =>
                    obtain ⟨u, H', w', rfl, e1, e2, e3, e4⟩ := strOf_ok (P := P) (it := it) (ty := o.type) hH hp (by omega) h
                    refine ⟨u, M, w', .inl ?_, e2, e3, e4⟩
                    have e1' : (Builtin.unsafeString_ #[pt, it] o.type #[.pointer (some ⟨_, _, none⟩), .int .i64 (Int.ofNat (m' + 1))]).run P w = .ok u w' := e1
                    simp only [execOp, ho, resolve, hb, Sem.run_bind, Sem.run_pure, Result.andThen_ok, invoke, builtin, map_eq, hl, ht', e1']
                · cases h
            · cases h
      · cases h
    · obtain ⟨y, rfl, e1, e2⟩ := evC_pure_ok (P := P) hH hη h
      refine ⟨y, M, w, .inl ?_, e2, hH, Stp.refl _ _ _⟩
      simp only [execOp, ho, resolve, hb, Sem.run_bind, Sem.run_pure, Result.andThen_ok, invoke, builtin, map_eq, e1]
    · obtain ⟨y, rfl, e1, e2⟩ := evC_pure_ok (P := P) hH hη h
      refine ⟨y, M, w, .inl ?_, e2, hH, Stp.refl _ _ _⟩
      simp only [execOp, ho, resolve, hb, Sem.run_bind, Sem.run_pure, Result.andThen_ok, invoke, builtin, map_eq, e1]
    · obtain ⟨y, rfl, e1, e2⟩ := evC_pure_ok (P := P) hH hη h
      refine ⟨y, M, w, .inl ?_, e2, hH, Stp.refl _ _ _⟩
      simp only [execOp, ho, resolve, hb, Sem.run_bind, Sem.run_pure, Result.andThen_ok, invoke, builtin, map_eq, e1]
    · cases h
  · rename_i x name hc
    unfold evC_invoke at h
    split at h
    · rename_i t v args hx hargs
      split at h
      · rename_i f hf
        split at h
        · rename_i hb
          cases h
          have hxr := hη _ _ hx
          have har := opds_vr hη hargs
          generalize hgg : η x = gv at hxr
          cases hxr with
          | iface _ hv =>
            rename_i u
            refine ⟨u :: c.args.toList.map η, ?_, .cons hv har⟩
            have hm := methE_run (P := P) (w := w) hf (P.types.size + (Made.depth - 1)) u
            have hd : P.types.size + Made.depth = P.types.size + (Made.depth - 1) + 1 := by
              have : 0 < Made.depth := by decide
              omega
            have e1 : (#[Value.iface t u] ++ c.args.map η)[0]? = some (Value.iface t u) := by
              rw [Array.getElem?_append_left (by simp)]; rfl
            have e2 : (#[Value.iface t u] ++ c.args.map η).extract 1 (#[Value.iface t u] ++ c.args.map η).size = c.args.map η := by
              apply Array.ext'
              have : (c.args.toList.map η).length = c.args.size := by simp
              simp [List.take_of_length_le, this]
            simp only [execOp, ho, resolve, hc, hgg, Sem.run_bind, Sem.run_pure, Result.andThen_ok, invoke, e1, e2, callMethod, run_program, hd, hm]
            rw [callFunc_run hb]
            congr 2
            rw [map_eq]
            apply Array.ext'
            simp
        · cases h
      · cases h
    · cases h

/-! ### an operation -/
def optE (ρ : Operand → Option Value) : Option Operand → Option (Option Value)
  | none => some none
  | some x => match ρ x with
    | some v => some (some v)
    | none => none
theorem optE_vr {ρ : Operand → Option Value} {η : Operand → Value} (hη : Opd M σ ρ η) {x : Option Operand} {r : Option Value} (h : optE ρ x = some r) :
    (r = none ∧ x.map η = none) ∨ ∃ a b, r = some a ∧ x.map η = some b ∧ VR M σ a b := by
  unfold optE at h
  split at h
  · cases h; exact .inl ⟨rfl, rfl⟩
  · split at h
    · rename_i v hv
      cases h; exact .inr ⟨_, _, rfl, rfl, hη _ _ hv⟩
    · cases h
def ev_pick (P : Program) (ρ : Operand → Option Value) (c : Operand) (a : Operand) (b : Operand) : Option OpR :=
  match ρ c with
    | some (.bool true) => pureO (ρ a)
    | some (.bool false) => pureO (ρ b)
    | _ => none
def ev_box (P : Program) (ρ : Operand → Option Value) (t : TypeId) (x : Operand) : Option OpR :=
  match ρ x with
    | some v => some (.new (.cells t v.cells.toList) ptrTo)
    | none => none
def ev_build (P : Program) (ρ : Operand → Option Value) (t : TypeId) (parts : Array (Nat × Operand)) : Option OpR :=
  match partsE ρ parts.toList with
    | some ps => evBuild P t ps
    | none => none
def ev_buildSlice (P : Program) (ρ : Operand → Option Value) (t : TypeId) (len : Nat) (parts : Array (Nat × Operand)) : Option OpR :=
  match partsE ρ parts.toList with
    | some ps => evBuildSlice P t len ps
    | none => none
def ev_load (P : Program) (ρ : Operand → Option Value) (H : Tr Blk) (nx : Nat) (t : TypeId) (a : Operand) : Option OpR :=
  match ρ a with
    | some (.pointer (some ⟨i, off, none⟩)) => pureO (loadE P t H i off)
    | some (.pointer (some ⟨i, off, some 0⟩)) => pureO (loadG P t i off)
    | _ => none
def ev_store (P : Program) (ρ : Operand → Option Value) (H : Tr Blk) (nx : Nat) (t : TypeId) (a : Operand) (x : Operand) : Option OpR :=
  match ρ a, ρ x with
    | some (.pointer (some ⟨i, off, none⟩)), some v => evStore P t H nx i off v
    | _, _ => none
def ev_nilCheck (P : Program) (ρ : Operand → Option Value) (x : Operand) : Option OpR :=
  match ρ x with
    | some v => match notNil v with
      | true => some (.pure v)
      | false => none
    | none => none
def ev_binOp (P : Program) (ρ : Operand → Option Value) (op : BinOp) (t : TypeId) (x : Operand) (z : Operand) : Option OpR :=
  match ρ x, ρ z with
    | some u, some v => pureO (match evBin P op t x z u v with | some y => some y | none => match binF op u v Tab.table with | some y => some y | none => seqF op t u v Tab.table)
    | _, _ => none
def ev_unOp (P : Program) (ρ : Operand → Option Value) (op : UnOp) (x : Operand) : Option OpR :=
  match ρ x with
    | some v => match clean v with
      | true => pureO (evClean P (Op.unary op v))
      | false => pureO (unF op v Tab.table)
    | none => none
/-- whole numbers that fit -/
def convFast (P : Program) (s d : TypeId) (v : Value) : Option Value :=
  match v with
  | .int _ n => match P.underlying s, P.underlying d with
    | some _, some (.int l) => match inK l n with
      | true => forceI n fun r => some (.int l r)
      | false => none
    | _, _ => none
  | _ => none
theorem convFast_run {s d : TypeId} {v y : Value} (h : convFast P s d v = some y) : (convert s d v).run P w = .ok y w ∧ clean y = true ∧ clean v = true := by
  unfold convFast at h
  split at h
  · split at h
    · rename_i hs hd
      split at h
      · rename_i hk
        rw [forceI_eq] at h
        cases h
        refine ⟨?_, rfl, rfl⟩
        simp [convert, run_underlying' hs, run_underlying' hd, Conv.intToInt, inK_wrap hk]
      · cases h
    · cases h
  · cases h
theorem evConvFast_ok {s d : TypeId} {x : Operand} {η : Operand → Value} {v : Value} (hv : VR M σ v (η x)) {y : Value} (h : convFast P s d v = some y) {o : Oper} (ho : o.op = .convert s d x) :
    Snd M σ H w ((execOp η o).run P w) (.pure y) := by
  obtain ⟨h1, h2, h3⟩ := convFast_run (P := P) (w := w) h
  rw [← hv.eq_of_clean h3] at h1
  exact ⟨y, .inl (by simp [execOp, ho, h1]), VR.of_clean _ h2⟩
def ev_convert (P : Program) (ρ : Operand → Option Value) (H : Tr Blk) (nx : Nat) (s : TypeId) (d : TypeId) (x : Operand) : Option OpR :=
  match ρ x with
    | some v => match convFast P s d v with
     | some y => some (.pure y)
     | none => match clean v with
      | true => match evClean P (convert s d v) with
        | some y => some (.pure y)
        | none => evConvH P s d v H nx
      | false => match convF s d v Tab.table with
        | some y => some (.pure y)
        | none => evConvH P s d v H nx
    | none => none
def ev_makeInterface (P : Program) (ρ : Operand → Option Value) (t : TypeId) (x : Operand) : Option OpR :=
  match ρ x, P.underlying t with
    | some v, some d => match d with
      | .interface _ => none
      | _ => some (.pure (.iface t v))
    | _, _ => none
def ev_makeFunc (P : Program) (ρ : Operand → Option Value) (f : Fn) (first : Array Operand) (captured : Array Operand) : Option OpR :=
  match f with
    | .func f => match opds ρ first.toList, opds ρ captured.toList with
      | some xs, some ys => some (.pure (.func (.func f) ⟨xs⟩ ⟨ys⟩))
      | _, _ => none
    | _ => none
def ev_makeSlice (P : Program) (ρ : Operand → Option Value) (t : TypeId) (l : Operand) (c : Operand) : Option OpR :=
  match ρ l, ρ c with
    | some a, some b => evMakeSlice P t a b
    | _, _ => none
def ev_slice (P : Program) (ρ : Operand → Option Value) (t : TypeId) (x : Operand) (lo : Option Operand) (hi : Option Operand) (mx : Option Operand) : Option OpR :=
  match mx with
    | none => match ρ x, optE ρ lo, optE ρ hi with
      | some v, some l, some h => evSlice P t v l h
      | _, _, _ => none
    | some mo => match hi with
      | some ho => match ρ x, optE ρ lo, ρ ho, ρ mo with
        | some v, some l, some h, some m => evSlice3 P t v l h m
        | _, _, _, _ => none
      | none => none
def ev_fieldAddr (P : Program) (ρ : Operand → Option Value) (s : TypeId) (x : Operand) (f : Nat) : Option OpR :=
  match ρ x with
    | some v => evFieldAddr P s f v
    | none => none
def ev_field (P : Program) (ρ : Operand → Option Value) (t : TypeId) (x : Operand) (f : Nat) : Option OpR :=
  match ρ x with
    | some v => evField P t f v
    | none => none
def ev_indexAddr (P : Program) (ρ : Operand → Option Value) (t : TypeId) (x : Operand) (ix : Operand) : Option OpR :=
  match ρ x, ρ ix with
    | some v, some i => evIndexAddr P t v i
    | _, _ => none
def ev_index (P : Program) (ρ : Operand → Option Value) (t : TypeId) (x : Operand) (ix : Operand) : Option OpR :=
  match ρ x, ρ ix with
    | some v, some i => evIndex P t v i
    | _, _ => none
def ev_extract (P : Program) (ρ : Operand → Option Value) (t : Operand) (ix : Nat) : Option OpR :=
  match ρ t with
    | some (.tuple ⟨cs⟩) => pureO cs[ix]?
    | _ => none
def ev_makeMap (P : Program) (ρ : Operand → Option Value) (t : TypeId) (r : Option Operand) : Option OpR :=
  match optE ρ r with
    | some x => evMakeMap P t (some x)
    | none => none
def ev_lookup (P : Program) (ρ : Operand → Option Value) (H : Tr Blk) (nx : Nat) (t : TypeId) (x : Operand) (k : Operand) (ok : Bool) : Option OpR :=
  match ρ x, ρ k with
    | some u, some v => pureO (evLookup P t u v ok H)
    | _, _ => none
def ev_mapUpdate (P : Program) (ρ : Operand → Option Value) (H : Tr Blk) (nx : Nat) (t : TypeId) (m : Operand) (k : Operand) (v : Operand) : Option OpR :=
  match ρ m, ρ k, ρ v with
    | some a, some b, some c => evMapUpdate P t a b c H nx
    | _, _, _ => none
def ev_mapEntry (P : Program) (ρ : Operand → Option Value) (H : Tr Blk) (nx : Nat) (t : TypeId) (m : Operand) (k : Operand) : Option OpR :=
  match ρ m, ρ k with
    | some a, some b => evMapEntry P t a b H nx
    | _, _ => none
def ev_entryStore (P : Program) (ρ : Operand → Option Value) (H : Tr Blk) (nx : Nat) (t : TypeId) (m : Operand) (s : Operand) (v : Operand) : Option OpR :=
  match ρ m, ρ s, ρ v with
    | some a, some b, some c => evEntryStore a b c H nx
    | _, _, _ => none
def ev_range (P : Program) (ρ : Operand → Option Value) (H : Tr Blk) (t : TypeId) (x : Operand) : Option OpR :=
  match ρ x with
    | some v => evRange P t v H
    | none => none
def ev_next (P : Program) (ρ : Operand → Option Value) (H : Tr Blk) (nx : Nat) (ty : TypeId) (it : Operand) (s : Bool) : Option OpR :=
  match s, ρ it with
    | false, some v => evNext ty v H nx
    | _, _ => none
def ev_entry (P : Program) (ρ : Operand → Option Value) (H : Tr Blk) (it : Operand) : Option OpR :=
  match ρ it with
    | some v => pureO (evEntry v H)
    | none => none
/-- what an operation does, made once -/
structure KO where
  run : (Operand → Option Value) → Tr Blk → Nat → Option OpR
def compO (P : Program) (ty : TypeId) (op : Op) : KO :=
  match op with
  | .move x => ⟨fun ρ H nx => pureO (ρ x)⟩
  | .assign x => ⟨fun ρ H nx => pureO (ρ x)⟩
  | .pick c a b => ⟨fun ρ H nx => ev_pick P ρ c a b⟩
  | .alloc t => ⟨fun ρ H nx => evAlloc P t⟩
  | .box t x => ⟨fun ρ H nx => ev_box P ρ t x⟩
  | .build t parts => ⟨fun ρ H nx => ev_build P ρ t parts⟩
  | .buildSlice t len parts => ⟨fun ρ H nx => ev_buildSlice P ρ t len parts⟩
  | .load t a => ⟨fun ρ H nx => ev_load P ρ H nx t a⟩
  | .store t a x => ⟨fun ρ H nx => ev_store P ρ H nx t a x⟩
  | .nilCheck x => ⟨fun ρ H nx => ev_nilCheck P ρ x⟩
  | .binOp op t x z _ => ⟨fun ρ H nx => ev_binOp P ρ op t x z⟩
  | .unOp op _ x => ⟨fun ρ H nx => ev_unOp P ρ op x⟩
  | .convert s d x => ⟨fun ρ H nx => ev_convert P ρ H nx s d x⟩
  | .makeInterface t x => ⟨fun ρ H nx => ev_makeInterface P ρ t x⟩
  | .makeFunc f first captured => ⟨fun ρ H nx => ev_makeFunc P ρ f first captured⟩
  | .makeSlice t l c => ⟨fun ρ H nx => ev_makeSlice P ρ t l c⟩
  | .slice t x lo hi mx => ⟨fun ρ H nx => ev_slice P ρ t x lo hi mx⟩
  | .fieldAddr s x f => ⟨fun ρ H nx => ev_fieldAddr P ρ s x f⟩
  | .field t x f => ⟨fun ρ H nx => ev_field P ρ t x f⟩
  | .indexAddr t x ix => ⟨fun ρ H nx => ev_indexAddr P ρ t x ix⟩
  | .index t x ix => ⟨fun ρ H nx => ev_index P ρ t x ix⟩
  | .extract t ix => ⟨fun ρ H nx => ev_extract P ρ t ix⟩
  | .call c => ⟨fun ρ H nx => evCall P c ty ρ H nx⟩
  | .makeMap t r => ⟨fun ρ H nx => ev_makeMap P ρ t r⟩
  | .lookup t x k ok => ⟨fun ρ H nx => ev_lookup P ρ H nx t x k ok⟩
  | .mapUpdate t m k v => ⟨fun ρ H nx => ev_mapUpdate P ρ H nx t m k v⟩
  | .insert t m k v => ⟨fun ρ H nx => ev_mapUpdate P ρ H nx t m k v⟩
  | .mapEntry t m k => ⟨fun ρ H nx => ev_mapEntry P ρ H nx t m k⟩
  | .entryStore t m s v => ⟨fun ρ H nx => ev_entryStore P ρ H nx t m s v⟩
  | .range t x => ⟨fun ρ H nx => ev_range P ρ H t x⟩
  | .next it s => ⟨fun ρ H nx => ev_next P ρ H nx ty it s⟩
  | .entry it => ⟨fun ρ H nx => ev_entry P ρ H it⟩
  | _ => ⟨fun ρ H nx => none⟩
def evOp (P : Program) (o : Oper) (ρ : Operand → Option Value) (H : Tr Blk) (nx : Nat) : Option OpR := (compO P o.type o.op).run ρ H nx
theorem evOp_ok (hH : HR M σ H.get w) {o : Oper} {ρ : Operand → Option Value} {η : Operand → Value} (hη : Opd M σ ρ η) {nx : Nat} {r : OpR} (h : evOp P o ρ H nx = some r) :
    Snd M σ H w ((execOp η o).run P w) r := by
  unfold evOp compO at h
  split at h <;> simp only at h
  · rename_i x ho
    obtain ⟨y, hy, rfl⟩ := pureO_eq h
    exact ⟨η x, .inl (by simp [execOp, ho]), hη _ _ hy⟩
  · rename_i x ho
    obtain ⟨y, hy, rfl⟩ := pureO_eq h
    exact ⟨η x, .inl (by simp [execOp, ho]), hη _ _ hy⟩
  · rename_i c a b ho
    unfold ev_pick at h
    split at h
    · rename_i hc
      obtain ⟨y, hy, rfl⟩ := pureO_eq h
      have e := (hη _ _ hc).eq_of_clean rfl
      exact ⟨η a, .inl (by simp [execOp, ho, e, asBool]), hη _ _ hy⟩
    · rename_i hc
      obtain ⟨y, hy, rfl⟩ := pureO_eq h
      have e := (hη _ _ hc).eq_of_clean rfl
      exact ⟨η b, .inl (by simp [execOp, ho, e, asBool]), hη _ _ hy⟩
    · cases h
  · rename_i t ho
    exact evAlloc_ok h ho η
  · rename_i t x ho
    unfold ev_box at h
    split at h
    · rename_i v hv; cases h; exact evBox_ok (hη _ _ hv) ho
    · cases h
  · rename_i t parts ho
    unfold ev_build at h
    split at h
    · rename_i ps hps; exact evBuild_ok hη hps h ho
    · cases h
  · rename_i t len parts ho
    unfold ev_buildSlice at h
    split at h
    · rename_i ps hps; exact evBuildSlice_ok hη hps h ho
    · cases h
  · rename_i t a ho
    unfold ev_load at h
    split at h
    · rename_i i off ha
      obtain ⟨y, hy, rfl⟩ := pureO_eq h
      exact evLoad_ok hH (hη _ _ ha) hy ho
    · rename_i i off ha
      obtain ⟨y, hy, rfl⟩ := pureO_eq h
      exact evLoadG_ok hH (hη _ _ ha) hy ho
    · cases h
  · rename_i t a x ho
    unfold ev_store at h
    split at h
    · rename_i i off v ha hx
      exact evStore_ok hH (hη _ _ ha) (hη _ _ hx) h ho
    · cases h
  · rename_i x ho
    unfold ev_nilCheck at h
    split at h
    · rename_i v hv
      split at h
      · rename_i hn; cases h; exact evNilCheck_ok (hη _ _ hv) hn ho
      · cases h
    · cases h
  · rename_i op t x z t' ho
    unfold ev_binOp at h
    split at h
    · rename_i u v hu hv
      obtain ⟨y, hy, rfl⟩ := pureO_eq h
      split at hy
      · rename_i y' hy'
        cases hy
        exact evBin_ok (hη _ _ hu) (hη _ _ hv) hy' ho
      · split at hy
        · rename_i y' hy'
          cases hy
          obtain ⟨f1, f2, f3, f4⟩ := binF_ok (P := P) (σ := σ) TabOK.ok hy'
          refine ⟨inst σ y, .inl ?_, f3.vr⟩
          have := f4 t x z w
          rw [← f1.eq (hη _ _ hu), ← f2.eq (hη _ _ hv)] at this
          simp only [execOp, ho]
          rw [Sem.run_bind, this]
          simp
        · obtain ⟨f1, f2⟩ := seqF_ok (P := P) (σ := σ) (w := w) TabOK.ok hy (hη _ _ hu) (hη _ _ hv) x z
          refine ⟨y, .inl ?_, VR.of_clean _ f1⟩
          simp only [execOp, ho]
          rw [Sem.run_bind, f2]
          simp
    · cases h
  · rename_i op t x ho
    unfold ev_unOp at h
    split at h
    · rename_i v hv
      split at h
      · rename_i hc
        obtain ⟨y, hy, rfl⟩ := pureO_eq h
        exact evUn_ok (hη _ _ hv) hc hy ho
      · obtain ⟨y, hy, rfl⟩ := pureO_eq h
        obtain ⟨f1, f2, f3⟩ := unF_ok (P := P) (σ := σ) TabOK.ok hy
        refine ⟨inst σ y, .inl ?_, f2.vr⟩
        have := f3 w
        rw [← f1.eq (hη _ _ hv)] at this
        simp only [execOp, ho]
        rw [Sem.run_bind, this]
        simp
    · cases h
  · rename_i s d x ho
    unfold ev_convert at h
    split at h
    · rename_i v hv
      split at h
      · rename_i y hy
        cases h
        exact evConvFast_ok (hη _ _ hv) hy ho
      split at h
      · rename_i hc
        split at h
        · rename_i y hy
          cases h
          exact evConv_ok (hη _ _ hv) hc hy ho
        · exact evConvH_ok hH (hη _ _ hv) h ho
      · split at h
        · rename_i y hy
          cases h
          obtain ⟨f1, f2, f3⟩ := convF_ok (P := P) (σ := σ) TabOK.ok hy
          refine ⟨inst σ y, .inl ?_, f2.vr⟩
          have := f3 w
          rw [← f1.eq (hη _ _ hv)] at this
          simp only [execOp, ho]
          rw [Sem.run_bind, this]
          simp
        · exact evConvH_ok hH (hη _ _ hv) h ho
    · cases h
  · rename_i t x ho
    unfold ev_makeInterface at h
    split at h
    · rename_i v d hv hd
      split at h
      · cases h
      · rename_i hne; cases h; exact evMakeIface_ok hd (fun ms e => hne ms e) (hη _ _ hv) ho
    · cases h
  · rename_i f first captured ho
    unfold ev_makeFunc at h
    split at h
    · split at h
      · rename_i xs ys h1 h2; cases h; exact evMakeFunc_ok hη h1 h2 ho
      · cases h
    · cases h
  · rename_i t l c ho
    unfold ev_makeSlice at h
    split at h
    · rename_i a b ha hb; exact evMakeSlice_ok (hη _ _ ha) (hη _ _ hb) h ho
    · cases h
  · rename_i t x lo hi mx ho
    unfold ev_slice at h
    split at h
    · split at h
      · rename_i v l hh hv hl hhi
        exact evSlice_ok (hη _ _ hv) (optE_vr hη hl) (optE_vr hη hhi) h ho
      · cases h
    · split at h
      · split at h
        · rename_i v l hh m hv hl hhi hm
          exact evSlice3_ok (hη _ _ hv) (optE_vr hη hl) (hη _ _ hhi) (hη _ _ hm) h ho
        · cases h
      · cases h
  · rename_i s x f ho
    unfold ev_fieldAddr at h
    split at h
    · rename_i v hv; exact evFieldAddr_ok (hη _ _ hv) h ho
    · cases h
  · rename_i t x f ho
    unfold ev_field at h
    split at h
    · rename_i v hv; exact evField_ok (hη _ _ hv) h ho
    · cases h
  · rename_i t x ix ho
    unfold ev_indexAddr at h
    split at h
    · rename_i v i hv hi; exact evIndexAddr_ok (hη _ _ hv) (hη _ _ hi) h ho
    · cases h
  · rename_i t x ix ho
    unfold ev_index at h
    split at h
    · rename_i v i hv hi; exact evIndex_ok (hη _ _ hv) (hη _ _ hi) h ho
    · cases h
  · rename_i t ix ho
    unfold ev_extract at h
    split at h
    · rename_i cs hcs
      obtain ⟨y, hy, rfl⟩ := pureO_eq h
      exact evExtract_ok (hη _ _ hcs) hy ho
    · cases h
  · rename_i c ho
    exact evCall_ok hH hη h ho
  · rename_i t rs ho
    unfold ev_makeMap at h
    split at h
    · rename_i x hx; exact evMakeMap_ok (optE_vr hη hx) h ho
    · cases h
  · rename_i t x k ok ho
    unfold ev_lookup at h
    split at h
    · rename_i u v hu hv
      obtain ⟨y, hy, rfl⟩ := pureO_eq h
      obtain ⟨u', e1, e2⟩ := evLookup_run hH (hη _ _ hu) (hη _ _ hv) hy
      exact ⟨u', .inl (by simp [execOp, ho, e1]), e2⟩
    · cases h
  · rename_i t m k v ho
    unfold ev_mapUpdate at h
    split at h
    · rename_i a b c ha hb hc
      obtain ⟨H', rfl, w', e1, e2, e3⟩ := evMapUpdate_ok hH (hη _ _ ha) (hη _ _ hb) (hη _ _ hc) h
      exact ⟨undef, M, w', .inr ⟨by simp [execOp, ho, e1], rfl⟩, undef_vr, e2, e3⟩
    · cases h
  · rename_i t m k v ho
    unfold ev_mapUpdate at h
    split at h
    · rename_i a b c ha hb hc
      obtain ⟨H', rfl, w', e1, e2, e3⟩ := evMapUpdate_ok hH (hη _ _ ha) (hη _ _ hb) (hη _ _ hc) h
      exact ⟨undef, M, w', .inr ⟨by simp [execOp, ho, e1], rfl⟩, undef_vr, e2, e3⟩
    · cases h
  · rename_i t m k ho
    unfold ev_mapEntry at h
    split at h
    · rename_i a b ha hb
      obtain ⟨v, H', rfl, u, w', e1, e2, e3, e4⟩ := evMapEntry_ok hH (hη _ _ ha) (hη _ _ hb) h
      exact ⟨u, M, w', .inl (by simp [execOp, ho, e1]), e2, e3, e4⟩
    · cases h
  · rename_i t m s v ho
    unfold ev_entryStore at h
    split at h
    · rename_i a b c ha hb hc
      obtain ⟨H', rfl, w', e1, e2, e3⟩ := evEntryStore_ok (P := P) (t := t) hH (hη _ _ ha) (hη _ _ hb) (hη _ _ hc) h
      exact ⟨undef, M, w', .inr ⟨by simp [execOp, ho, e1], rfl⟩, undef_vr, e2, e3⟩
    · cases h
  · rename_i t x ho
    unfold ev_range at h
    split at h
    · rename_i v hv; exact evRange_ok hH (hη _ _ hv) h ho
    · cases h
  · rename_i it s ho
    unfold ev_next at h
    split at h
    · rename_i v hv
      rcases evNext_run (P := P) hH (hη _ _ hv) h with ⟨y, rfl, hc, e1⟩ | ⟨y, H', rfl, u, w', e1, e2, e3, e4⟩
      · exact ⟨y, .inl (by simp [execOp, ho, e1]), VR.of_clean _ hc⟩
      · exact ⟨u, M, w', .inl (by simp [execOp, ho, e1]), e2, e3, e4⟩
    · cases h
  · rename_i it ho
    unfold ev_entry at h
    split at h
    · rename_i v hv
      obtain ⟨y, hy, rfl⟩ := pureO_eq h
      obtain ⟨u', e1, e2⟩ := evEntry_run (P := P) hH (hη _ _ hv) hy
      exact ⟨u', .inl (by simp [execOp, ho, e1]), e2⟩
    · cases h
  · cases h
end
end Go.Proofs.YtlpepmhpnmnpkaaDoor.Ev
