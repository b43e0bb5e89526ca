/-
  A checked evaluator, part H: calls; the operation as a whole.
-/
import Derived.Test.YtdhdaknfmpfegaaEvL
import Derived.LoopNIn
import Derived.TacticsIn
import Derived.RangeFuncLeaves
import Derived.RecoverIn
section
set_option linter.unusedVariables false
set_option linter.unusedSimpArgs false
set_option linter.unusedSectionVars false
namespace Go.Proofs.Ytdhdaknfmpfegaa.Ev
open Go Go.RowKit

variable [Tab]
section
variable {P : Program} {M : Mp} {σ : Nat → Value} [TabOK P σ] {H : Tr Blk} {w : World}
theorem evUn_ok {op : UnOp} {t : TypeId} {x : Operand} {η : Operand → Value} {v : Value} (hv : VR M σ v (η x)) (hc : clean v = true) {y : Value} (h : evClean P (Op.unary op v) = some y) {o : Oper} (ho : o.op = .unOp op t x) :
    Snd M σ H w ((execOp η o).run P w) (.pure y) := by
  obtain ⟨h1, h2⟩ := evClean_sound (w := w) h
  rw [← hv.eq_of_clean hc] at h1
  exact ⟨y, .inl (by simp [execOp, ho, h1]), VR.of_clean _ h2⟩
theorem evConv_ok {s d : TypeId} {x : Operand} {η : Operand → Value} {v : Value} (hv : VR M σ v (η x)) (hc : clean v = true) {y : Value} (h : evClean P (convert s d v) = some y) {o : Oper} (ho : o.op = .convert s d x) :
    Snd M σ H w ((execOp η o).run P w) (.pure y) := by
  obtain ⟨h1, h2⟩ := evClean_sound (w := w) h
  rw [← hv.eq_of_clean hc] at h1
  exact ⟨y, .inl (by simp [execOp, ho, h1]), VR.of_clean _ h2⟩
def notNil : Value → Bool
  | .pointer (some _) | .func (.func _) _ _ | .iface _ _ | .int _ _ | .bool _ | .string _ | .agg _ | .slice _ _ _ | .map _ => true
  | _ => false
theorem evNilCheck_ok {x : Operand} {η : Operand → Value} {v : Value} (hv : VR M σ v (η x)) (hn : notNil v = true) {o : Oper} (ho : o.op = .nilCheck x) :
    Snd M σ H w ((execOp η o).run P w) (.pure v) := by
  refine ⟨η x, .inl ?_, hv⟩
  simp only [execOp, ho]
  generalize η x = u at hv
  cases hv <;> first | (simp [notNil] at hn; done) | rfl
theorem evMakeIface_ok {t : TypeId} {d : TypeDesc} (hu : P.underlying t = some d) (hd : ∀ ms, d ≠ .interface ms) {x : Operand} {η : Operand → Value} {v : Value} (hv : VR M σ v (η x)) {o : Oper} (ho : o.op = .makeInterface t x) :
    Snd M σ H w ((execOp η o).run P w) (.pure (.iface t v)) := by
  refine ⟨.iface t (η x), .inl ?_, .iface t hv⟩
  cases d <;> first | (exact absurd rfl (hd _)) | simp [execOp, ho, Instr.makeInterface, run_underlying' hu]
theorem evMakeFunc_ok {f : FuncId} {first captured : Array Operand} {ρ : Operand → Option Value} {η : Operand → Value} (hη : Opd M σ ρ η) {xs ys : List Value} (h1 : opds ρ first.toList = some xs) (h2 : opds ρ captured.toList = some ys)
    {o : Oper} (ho : o.op = .makeFunc (.func f) first captured) : Snd M σ H w ((execOp η o).run P w) (.pure (.func (.func f) ⟨xs⟩ ⟨ys⟩)) := by
  refine ⟨.func (.func f) (first.map η) (captured.map η), .inl (by simp [execOp, ho, Instr.makeFunc]), ?_⟩
  have a := opds_vr hη h1
  have b := opds_vr hη h2
  have e1 : first.map η = ⟨first.toList.map η⟩ := by apply Array.ext'; simp
  have e2 : captured.map η = ⟨captured.toList.map η⟩ := by apply Array.ext'; simp
  rw [e1, e2]
  exact .func f a b

/-! ### calls -/
def bodied (P : Program) (f : FuncId) : Bool :=
  match P.funcs[f]? with
  | some fn => match fn.name == "runtime.NumGoroutine" with
    | true => false
    | false => fn.body.isSome
  | none => false
theorem callFunc_run {f : FuncId} (h : bodied P f = true) (args : Array Value) (w : World) : (callFunc f args).run P w = .ok (.enter f args) w := by
  unfold bodied at h
  split at h
  · rename_i fn hfn
    split at h
    · cases h
    · rename_i hn
      have hb : fn.body ≠ none := by intro e; rw [e] at h; cases h
      have hn' : fn.name ≠ "runtime.NumGoroutine" := by simpa using hn
      simp [callFunc, hfn, hn', hb]
  · cases h
def evLen (P : Program) (t : TypeId) (x : Value) (H : Tr Blk) : Option Value :=
  match P.underlying t, x with
  | some (.slice _), .slice _ n _ => some (goInt n)
  | some .string, .string s => some (goInt s.size)
  | some (.array n _), _ => some (goInt n)
  | some (.map _ _), .map none => some (goInt 0)
  | some (.map _ _), .map (some i) => match H.get (key i) with
    | some (.map es _) => some (goInt es.length)
    | _ => none
  | _, _ => none
theorem evLen_run (hH : HR M σ H.get w) {t : TypeId} {x u y : Value} (h : evLen P t x H = some y) (hx : VR M σ x u) (ty : TypeId) : (Builtin.len_ #[t] ty #[u]).run P w = .ok y w ∧ clean y = true := by
  unfold evLen at h
  split at h
  · rename_i hu; cases h; cases hx <;> exact ⟨by simp [Builtin.len_, run_underlying' hu], rfl⟩
  · rename_i hu; cases h; cases hx; exact ⟨by simp [Builtin.len_, run_underlying' hu], rfl⟩
  · rename_i hu; cases h; exact ⟨by simp [Builtin.len_, run_underlying' hu], rfl⟩
  · rename_i hu; cases h; cases hx; exact ⟨by simp [Builtin.len_, run_underlying' hu], rfl⟩
  · rename_i hu
    split at h
    · rename_i es c hg
      cases h
      cases hx with
      | map hp =>
        obtain ⟨fs, hb, her⟩ := hH.at hg rfl hp
        have hl := her.length
        refine ⟨?_, rfl⟩
        simp [Builtin.len_, run_underlying' hu, MapKept.run_getObj_map hb]
        have : fs.size = es.length := by simpa using hl.symm
        rw [this]
    · cases h
  · cases h
def evCap (P : Program) (t : TypeId) (x : Value) : Option Value :=
  match P.underlying t, x with
  | some (.slice _), .slice none _ n => some (goInt n)
  | some (.slice _), .slice (some ⟨_, _, none⟩) _ n => some (goInt n)
  | _, _ => none
theorem evCap_run {t : TypeId} {x u y : Value} (h : evCap P t x = some y) (hx : VR M σ x u) (ty : TypeId) : (Builtin.cap_ #[t] ty #[u]).run P w = .ok y w ∧ clean y = true := by
  unfold evCap at h
  split at h <;> (try (cases h; done)) <;> rename_i hu <;> cases h
  · cases hx; exact ⟨by simp [Builtin.cap_, run_underlying' hu], rfl⟩
  · cases hx; exact ⟨by simp [Builtin.cap_, run_underlying' hu], rfl⟩
/-- the method of an interface value's own type, where it is no promoted one -/
def methE (P : Program) (t : TypeId) (name : String) : Option FuncId :=
  match P.info? t with
  | some i => match i.methods.find? (·.name == name) with
    | some m => match m.path.toList, m.func with
      | [], some (f, pr) => match P.underlying t with
        | some (.pointer _) => match pr with | true => some f | false => none
        | some _ => match pr with | true => none | false => some f
        | none => none
      | _, _ => none
    | none => none
  | none => none
theorem methE_run {t : TypeId} {name : String} {f : FuncId} (h : methE P t name = some f) (n : Nat) (v : Value) : (method (n + 1) t v name).run P w = .ok (f, v) w := by
  unfold methE at h
  split at h
  · rename_i i hi
    split at h
    · rename_i m hm
      split at h
      · rename_i f' pr hp hf
        have hrec : ∀ (o : Option String), f' = f → (∃ d, P.underlying t = some d ∧ ((∃ e, d = .pointer e) ↔ pr = true)) → (receiverAt t (.val v) pr o).run P w = .ok v w := by
          rintro o - ⟨d, hd, hpr⟩
          cases d <;> cases pr <;> simp at hpr <;> simp [receiverAt, run_underlying' hd, Place.get]
        have hboth : f' = f ∧ (∃ d, P.underlying t = some d ∧ ((∃ e, d = .pointer e) ↔ pr = true)) := by
          split at h
          · rename_i e hu
            cases pr <;> simp at h
            exact ⟨h, _, hu, by simp⟩
          · rename_i d hne hu
            cases pr <;> simp at h
            refine ⟨h, d, by simpa using hu, ?_⟩
            simp only [Bool.false_eq_true, iff_false]
            rintro ⟨e, rfl⟩
            exact hne e rfl
          · cases h
        have hr := hrec (if m.path.isEmpty then some ((name.splitOn ".").getLastD name) else none) hboth.1 hboth.2
        simp only [method, Sem.run_bind, run_typeInfo' hi, Result.andThen_ok, hm, hp, follow, Sem.run_pure, hf, hr]
        rw [hboth.1]
      · cases h
    · cases h
  · cases h
def evC_len (P : Program) (c : Call) (ty : TypeId) (ρ : Operand → Option Value) (H : Tr Blk) (nx : Nat) : Option OpR :=
  match c.argTypes.toList, opds ρ c.args.toList with
    | [t], some [x] => pureO (match evLen P t x H with | some y => some y | none => lenF t x Tab.table)
    | _, _ => none
def evC_cap (P : Program) (c : Call) (ty : TypeId) (ρ : Operand → Option Value) (H : Tr Blk) (nx : Nat) : Option OpR :=
  match c.argTypes.toList, opds ρ c.args.toList with
    | [t], some [x] => pureO (evCap P t x)
    | _, _ => none
def evC_min (P : Program) (c : Call) (ty : TypeId) (ρ : Operand → Option Value) (H : Tr Blk) (nx : Nat) : Option OpR :=
  match opds ρ c.args.toList with
    | some args => match cleans args with
      | true => pureO (evClean P (Builtin.min_ c.argTypes ty ⟨args⟩))
      | false => match args with
        | [x, y] => pureO (mxF false x y Tab.table)
        | _ => none
    | none => none
def evC_max (P : Program) (c : Call) (ty : TypeId) (ρ : Operand → Option Value) (H : Tr Blk) (nx : Nat) : Option OpR :=
  match opds ρ c.args.toList with
    | some args => match cleans args with
      | true => pureO (evClean P (Builtin.max_ c.argTypes ty ⟨args⟩))
      | false => match args with
        | [x, y] => pureO (mxF true x y Tab.table)
        | _ => none
    | none => none
def evC_append (P : Program) (c : Call) (ty : TypeId) (ρ : Operand → Option Value) (H : Tr Blk) (nx : Nat) : Option OpR :=
  match c.argTypes.toList, opds ρ c.args.toList with
    | [s, t], some [x, y] => evAppend P s t x y H nx
    | _, _ => none
def evC_copy (P : Program) (c : Call) (ty : TypeId) (ρ : Operand → Option Value) (H : Tr Blk) (nx : Nat) : Option OpR :=
  match c.argTypes.toList, opds ρ c.args.toList with
    | t :: _, some [x, y] => evCopy P t x y H nx
    | _, _ => none
def evC_delete (P : Program) (c : Call) (ty : TypeId) (ρ : Operand → Option Value) (H : Tr Blk) (nx : Nat) : Option OpR :=
  match c.argTypes.toList, opds ρ c.args.toList with
    | t :: _, some [x, y] => evDelete P t x y H nx
    | _, _ => none
def evC_clear (P : Program) (c : Call) (ty : TypeId) (ρ : Operand → Option Value) (H : Tr Blk) (nx : Nat) : Option OpR :=
  match c.argTypes.toList, opds ρ c.args.toList with
    | t :: _, some [x] => evClear P t x H nx
    | _, _ => none
/-! ### functions without a body -/
theorem digits_one : ∀ (n t : Nat) (acc : Array Value), (∀ v ∈ acc, v.oneCell' = true) → ∀ v ∈ Extern.BytealgMakeNoZero.digits n t acc, v.oneCell' = true
  | 0, _, _, h => h
  | n + 1, t, acc, h => by
    rw [Extern.BytealgMakeNoZero.digits]
    refine digits_one n _ _ fun v hv => ?_
    rw [Array.mem_push] at hv
    rcases hv with hv | rfl
    · exact h v hv
    · rfl
theorem run_mkNZ (w : World) (ps : Array TypeId) (t e : TypeId) (ht : P.underlying t = some (.slice e)) (n : Nat) (hn : n ≤ 1048576) :
    ∃ (cs : Array Value), (∀ v ∈ cs, v.oneCell' = true) ∧ n ≤ cs.size ∧ (Extern.BytealgMakeNoZero.makeNoZero ps #[t] #[.int .i64 n]).run P w = .ok (.slice (some ⟨w.heap.size, 0, none⟩) n cs.size) (w.drew.drew.alloc (.cells cs e)) := by
  have h1 : ¬ (n : Int) < 0 := by omega
  have h2 : ¬ (281474976710656 : Int) < (n : Int) := by omega
  refine ⟨Extern.BytealgMakeNoZero.digits (grownCap w n 0 e) ((Question.extern "internal/bytealg.MakeNoZero.bytes" 0).cut (w.tape (w.drawn + 1) (.extern "internal/bytealg.MakeNoZero.bytes" 0))) #[], digits_one _ _ _ (by simp), ?_, ?_⟩
  · rw [Lib.size_digits]; simpa using grownCap_ge w n 0 e
  · change Sem.run P (Bind.bind (underlying t) _) w = _
    simp [run_underlying' ht, h1, h2, Question.forced, newRow, Lib.size_digits, grownCap]
def mkNZE (e : TypeId) (n : Int) (H : Tr Blk) (nx : Nat) : Option OpR :=
  match n with
  | .ofNat m => match Nat.ble m 1048576, H.get (key nx) with
    | true, none => some (.upd (grownTo 1 m nx) (H.set (key nx) (.cells e (List.replicate m (.chan none)))) (nx + 1))
    | _, _ => none
  | .negSucc _ => none
def extF (P : Program) (f : FuncId) (args : List Value) (H : Tr Blk) (nx : Nat) : List Fact → Option OpR
  | [] => none
  | .same f' :: l => match Nat.beq f f' with
    | true => match args with
      | [x] => some (.upd x H nx)
      | _ => none
    | false => extF P f args H nx l
  | .mkNZ f' e :: l => match Nat.beq f f' with
    | true => match args with
      | [.int .i64 n] => mkNZE e n H nx
      | _ => none
    | false => extF P f args H nx l
  | .ext f' g :: l => match Nat.beq f f' with
    | true => match cleans args with
      | true => match evClean P (g ⟨args⟩) with
        | some y => some (.upd y H nx)
        | none => none
      | false => none
    | false => extF P f args H nx l
  | _ :: l => extF P f args H nx l
theorem extF_ok (hH : HR M σ H.get w) {f : FuncId} {args vs : List Value} (hvs : VRs M σ args vs) {nx : Nat} : ∀ (l : List Fact), (∀ g ∈ l, g.Holds P σ) → ∀ {r : OpR}, extF P f args H nx l = some r → Snd M σ H w ((callFunc f vs.toArray).run P w) r
  | [], _, r, h => by cases h
  | g :: l, hl, r, h => by
    have ih : ∀ {r : OpR}, extF P f args H nx l = some r → Snd M σ H w ((callFunc f vs.toArray).run P w) r := fun h => extF_ok hH hvs l (fun g hg => hl g (List.mem_cons_of_mem _ hg)) h
    have hg := hl g (List.mem_cons_self)
    cases g with
    | same f' =>
      simp only [extF] at h
      split at h
      · rename_i hf
        have := Nat.eq_of_beq_eq_true hf
        subst this
        split at h
        · rename_i x
          cases h
          cases hvs with
          | cons hx h0 => cases h0; exact ⟨_, M, w, .inl (hg _ w), hx, hH, Stp.refl _ _ _⟩
        · cases h
      · exact ih h
    | mkNZ f' e =>
      simp only [extF] at h
      split at h
      · rename_i hf
        have := Nat.eq_of_beq_eq_true hf
        subst this
        split at h
        · rename_i n
          obtain ⟨ps, t, ht, hrun⟩ := hg
          cases hvs with
          | cons hx h0 =>
            cases h0
            cases hx
            unfold mkNZE at h
            split at h
            · rename_i m
              split at h
              · rename_i hm hf
                cases h
                have hm := Nat.le_of_ble_eq_true hm
                have hM := hH.unplaced hf
                obtain ⟨cs, c1, c2, c3⟩ := run_mkNZ (P := P) w ps t e ht m hm
                have hb : BR (ins M (key nx) ⟨w.drew.drew.heap.size, 0, cs.size⟩) σ (.cells e (List.replicate m (.chan none))) ⟨w.drew.drew.heap.size, 0, cs.size⟩ (w.drew.drew.alloc (.cells cs e)) :=
                  BR.row (by simpa using c2) fun j x hj => by
                    obtain ⟨hj1, hj2⟩ := List.getElem?_eq_some_iff.1 hj
                    rw [List.getElem_replicate] at hj2
                    subst hj2
                    rw [List.length_replicate] at hj1
                    have hj3 : j < cs.size := by omega
                    exact ⟨cs[j], Array.getElem?_eq_getElem hj3, .any _ (c1 _ (Array.getElem_mem hj3))⟩
                refine ⟨.slice (some ⟨w.heap.size, 0, none⟩) m cs.size, ins M (key nx) ⟨w.drew.drew.heap.size, 0, cs.size⟩, w.drew.drew.alloc (.cells cs e), .inl ?_, ?_, ?_, ?_⟩
                · have e1 : (Value.int .i64 (Int.ofNat m)) = .int .i64 (m : Int) := rfl
                  rw [hrun, e1, Sem.run_bind, c3]
                  simp
                · have := VR.grown (σ := σ) 0 1 m m cs.size (ins_same M (key nx) ⟨w.drew.drew.heap.size, 0, cs.size⟩) (Nat.le_refl _) c2 (by simp)
                  simpa [grownTo] using this
                · rw [Tr.get_upd]; exact hH.drew.drew.make hM hb
                · rw [Tr.get_upd]; exact (Stp.drew.trans Stp.drew).alloc hM hf _ _ _
              · cases h
            · cases h
        · cases h
      · exact ih h
    | ext f' g =>
      simp only [extF] at h
      split at h
      · rename_i hf
        have := Nat.eq_of_beq_eq_true hf
        subst this
        split at h
        · rename_i hc
          split at h
          · rename_i y hy
            cases h
            have := hvs.eq_of_clean hc
            subst this
            obtain ⟨h1, h2⟩ := evClean_sound (P := P) (w := w) hy
            refine ⟨y, M, w, .inl ?_, VR.of_clean _ h2, hH, Stp.refl _ _ _⟩
            rw [hg _ w, Sem.run_bind, h1]
            simp
          · cases h
        · cases h
      · exact ih h
    | bin => exact ih (by simpa only [extF] using h)
    | len => exact ih (by simpa only [extF] using h)
    | conv => exact ih (by simpa only [extF] using h)
    | call => exact ih (by simpa only [extF] using h)
    | un => exact ih (by simpa only [extF] using h)
    | seq => exact ih (by simpa only [extF] using h)
    | mx => exact ih (by simpa only [extF] using h)
    | bld => exact ih (by simpa only [extF] using h)
    | st => exact ih (by simpa only [extF] using h)
/-! ### package unsafe -/
theorem freeze_old (w : World) (a : Addr) (n j : Nat) (h : j ≠ a.block) : (w.freeze a n).heap[j]? = w.heap[j]? := by
  unfold World.freeze
  split
  · rfl
  · simp only [Array.getElem?_modify]; rw [if_neg (fun e => h e.symm)]
theorem freeze_os (w : World) (a : Addr) (n : Nat) : (w.freeze a n).os = w.os := by unfold World.freeze; split <;> rfl
theorem freeze_tape (w : World) (a : Addr) (n : Nat) : (w.freeze a n).tape = w.tape := by unfold World.freeze; split <;> rfl
theorem freeze_output (w : World) (a : Addr) (n : Nat) : (w.freeze a n).output = w.output := by unfold World.freeze; split <;> rfl
theorem freeze_size (w : World) (a : Addr) (n : Nat) : (w.freeze a n).heap.size = w.heap.size := by unfold World.freeze; split <;> simp
omit [Tab] in
theorem inK_u8 {n : Int} (h : inK .u8 n = true) : 0 ≤ n ∧ n ≤ 255 := by
  simp only [inK] at h
  split at h
  · have := Nat.le_of_ble_eq_true h; simp; omega
  · cases h
theorem cellsE_le {i o n : Nat} {ys : List Value} {t : TypeId} {xs : List Value} (h : cellsE H i o n = some ys) (hg : H.get (key i) = some (.cells t xs)) (hn : n ≠ 0) : o + n ≤ xs.length := by
  unfold cellsE at h
  rw [hg] at h
  obtain ⟨hl, hj⟩ := takeE_get h
  have e := hj (n - 1) (by omega)
  rw [List.getElem?_drop] at e
  have hx : ys[n - 1]? = some (ys[n - 1]'(by omega)) := List.getElem?_eq_getElem (by omega)
  rw [hx] at e
  have := (List.getElem?_eq_some_iff.1 e.symm).1
  omega
def evC_sliceData (P : Program) (c : Call) (ρ : Operand → Option Value) (H : Tr Blk) (nx : Nat) : Option OpR :=
  match opds ρ c.args.toList with
  | some [.slice (some ⟨i, o, _⟩) _ cp] => match Nat.blt 0 cp with
    | true => some (.upd (.pointer (some ⟨i, o, none⟩)) H nx)
    | false => none
  | some [.slice none _ _] => some (.upd (.pointer none) H nx)
  | _ => none
def strOf (P : Program) (pt : TypeId) (i o m : Nat) (H : Tr Blk) (nx : Nat) : Option OpR :=
  match H.get (key i), P.underlying pt, cellsE H i o m with
  | some (.cells t _), some (.pointer e), some ys => match Nat.beq t e, Nat.beq (P.cellsOf e) 1, bytesOfE ys with
    | true, true, some ns => match ns.all (inK .u8), Nat.ble m 1073741824 with
      | true, true => some (.upd (.string (mkStr ns)) (H.set (key i) .dead) nx)
      | _, _ => none
    | _, _, _ => none
  | _, _, _ => none
def evC_str (P : Program) (c : Call) (ρ : Operand → Option Value) (H : Tr Blk) (nx : Nat) : Option OpR :=
  match c.argTypes.toList, opds ρ c.args.toList with
  | [pt, _], some [p, .int .i64 n] => match n with
    | .ofNat m => match m with
      | 0 => match p with
        | .pointer none => some (.upd (.string .empty) H nx)
        | .pointer (some ⟨_, _, none⟩) => some (.upd (.string .empty) H nx)
        | _ => none
      | m' + 1 => match p with
        | .pointer (some ⟨i, o, none⟩) => strOf P pt i o (m' + 1) H nx
        | _ => none
    | .negSucc _ => none
  | _, _ => none
theorem lies_bytes {e : TypeId} (hc : P.cellsOf e = 1) {count off n : Nat} (h : off + n ≤ count) : liesAt P P.depth e count off e n = true := by
  obtain ⟨d, hd⟩ : ∃ d, P.depth = d + 1 := ⟨_, rfl⟩
  have hs : sameLayout P P.depth e e = true := by rw [hd]; simp [sameLayout]
  have hr : rowAt P (sameLayout P P.depth · e) P.depth e count off n = true := by
    rw [hd, rowAt]
    rw [hd] at hs
    simp [hc, h, hs, Nat.mod_one]
  have : liesAt P (d + 1) e count off e n = true := by
    rw [liesAt, hr]; rfl
  rw [← hd] at this
  exact this
theorem run_strOf (w : World) (pt it ty e : TypeId) (hp : P.underlying pt = some (.pointer e)) (hc : P.cellsOf e = 1) (g off cells : Nat) (hsh : w.shape? g = some (e, cells)) (l : List UInt8) (h0 : l ≠ []) (hn : off + l.length ≤ cells) (h63 : l.length ≤ 9223372036854775807)
    (hcell : ∀ j x, l[j]? = some x → w.cell? ((⟨g, off, none⟩ : Addr).add j) = some (.int .u8 x.toNat)) :
    (Builtin.unsafeString_ #[pt, it] ty #[.pointer (some ⟨g, off, none⟩), .int .i64 l.length]).run P w = .ok (.string ⟨l.toArray⟩) (w.freeze ⟨g, off, none⟩ l.length) := by
  have hl : l.length ≠ 0 := by simpa using h0
  have hlb := Lib.run_loadBytes (P := P) w l ⟨g, off, none⟩ .empty hcell
  have hlies := lies_bytes (P := P) hc (count := cells / P.cellsOf e) (off := off) (n := l.length) (by rw [hc]; simpa using hn)
  have h63' : ¬ (9223372036854775807 : Int) < (l.length : Int) := by omega
  have hmax : IntKind.i64.max = 9223372036854775807 := rfl
  have hneg : ¬ (l.length : Int) < 0 := by omega
  change Sem.run P (Bind.bind (asInt (.int .i64 l.length)) _) w = _
  simp [asInt, asIntOf, hmax, h63', hneg, hl, variablesAt, hsh, elemOf, run_underlying' hp, hlies, hlb]
theorem strOf_ok (hH : HR M σ H.get w) {pt it ty : TypeId} {i o m nx : Nat} {p : Place} (hp : M (key i) = some p) (hm : m ≠ 0) {r : OpR} (h : strOf P pt i o m H nx = some r) :
    ∃ u H' w', r = .upd u H' nx ∧ (Builtin.unsafeString_ #[pt, it] ty #[.pointer (some ⟨p.b, p.s + o, none⟩), .int .i64 (m : Int)]).run P w = .ok u w' ∧ VR M σ u u ∧ HR M σ H'.get w' ∧ Stp M H.get w M H'.get w' := by
  unfold strOf at h
  split at h
  · rename_i t xs e ys hg hpt hys
    split at h
    · rename_i ns hte hce hns
      split at h
      · rename_i hall hmb
        cases h
        have := Nat.eq_of_beq_eq_true hte
        subst this
        have hce := Nat.eq_of_beq_eq_true hce
        have hmb := Nat.le_of_ble_eq_true hmb
        obtain ⟨vs, h1, h2, h3⟩ := cellsE_run hH hys hp
        have he2 := bytesOfE_eq hns
        have hcl : ∀ ns : List Int, cleans (ns.map (Value.int .u8)) = true := fun ns => by induction ns with
          | nil => rfl
          | cons n ns ih => simp [cleans, clean, ih]
        have hvs := h2.eq_of_clean (by rw [he2]; exact hcl ns)
        obtain ⟨c, fr, b1, b0, bs, b2, b3, b4⟩ := hH.at hg rfl hp
        have hsh : w.shape? p.b = some (t, c.size) := by simp [World.shape?, b1]
        have hlen : ns.length = m := by
          have e1 := congrArg List.length hvs
          have e2 := congrArg List.length he2
          simp only [List.length_map] at e1 e2
          omega
        have hys0 := cellsE_le hys hg hm
        have hrun := run_strOf (P := P) w pt it ty t hpt hce p.b (p.s + o) c.size hsh (mkStr ns).data.toList (by
            intro e0
            have := congrArg List.length e0
            simp [mkStr, hlen] at this
            exact hm this) (by simp [mkStr, hlen]; omega) (by simp [mkStr, hlen]; omega) (by
            intro j x hj
            rw [addr_add]
            simp only [mkStr, List.getElem?_map, Option.map_eq_some_iff] at hj
            obtain ⟨k, hk, rfl⟩ := hj
            have hv : vs[j]? = some (.int .u8 k) := by rw [hvs, he2, List.getElem?_map, hk]; rfl
            rw [h3 j _ hv]
            have hin := List.all_eq_true.1 hall k (List.mem_of_getElem? hk)
            have := inK_u8 hin
            congr 2
            rw [UInt8.toNat_ofNat']
            have e8 : (2 : Nat) ^ 8 = 256 := rfl
            omega)
        have hls : (mkStr ns).data.toList.length = m := by simp [mkStr, hlen]
        rw [hls] at hrun
        refine ⟨_, _, _, rfl, hrun, ?_, ?_, ?_⟩
        · exact .str _
        · rw [Tr.get_upd]
          refine (hH.kill (key i) hg).keep (fun k' b' q g l m' => freeze_old w _ m _ fun e' => ?_) fun x hx => freeze_old w _ m _ fun e' => (hH.gl x hx).2 _ _ p hg rfl hp e'.symm
          by_cases ek : k' = key i
          · subst ek; rw [upd_same] at g; cases g; cases l
          · rw [upd_other _ _ ek] at g
            exact ek (hH.inj k' (key i) b' _ q p g l hg rfl m' hp e')
        · rw [Tr.get_upd]
          have hk := Stp.kill (M := M) (w := w) (key i) hg
          exact ⟨Le.refl _, freeze_os w _ m, freeze_tape w _ m, freeze_output w _ m, by rw [freeze_size]; exact Nat.le_refl _, fun j hj hno => freeze_old w _ m j fun e' => hno (key i) _ p hg rfl hp e'.symm, hk.dead, fun _ _ h => .inl h, hk.grow, hk.own⟩
      · cases h
    · cases h
  · cases h
/-- builtins of plain values -/
def evC_pure (P : Program) (c : Call) (s : Array Value → Sem Value) (ρ : Operand → Option Value) (H : Tr Blk) (nx : Nat) : Option OpR :=
  match opds ρ c.args.toList with
  | some args => match cleans args with
    | true => match evClean P (s ⟨args⟩) with
      | some y => some (.upd y H nx)
      | none => none
    | false => none
  | none => none
theorem evC_pure_ok (hH : HR M σ H.get w) {c : Call} {s : Array Value → Sem Value} {ρ : Operand → Option Value} {η : Operand → Value} (hη : Opd M σ ρ η) {nx : Nat} {r : OpR} (h : evC_pure P c s ρ H nx = some r) :
    ∃ y, r = .upd y H nx ∧ (s ⟨c.args.toList.map η⟩).run P w = .ok y w ∧ VR M σ y y := by
  unfold evC_pure at h
  split at h
  · rename_i args hargs
    split at h
    · rename_i hc
      split at h
      · rename_i y hy
        cases h
        have har := opds_vr hη hargs
        rw [har.eq_of_clean hc]
        obtain ⟨h1, h2⟩ := evClean_sound (P := P) (w := w) hy
        exact ⟨y, rfl, h1, VR.of_clean _ h2⟩
      · cases h
    · cases h
  · cases h
def evC_value (P : Program) (c : Call) (g : Operand) (ρ : Operand → Option Value) (H : Tr Blk) (nx : Nat) : Option OpR :=
  match ρ g, opds ρ c.args.toList with
    | some (.func (.func f) ⟨first⟩ ⟨captured⟩), some args => match bodied P f with
      | true => some (.call (.fn f) (first ++ args ++ captured))
      | false => extF P f (first ++ args ++ captured) H nx Tab.table
    | some (.func (.yield l) ⟨[]⟩ ⟨[]⟩), some args => match H.get (key l) with
      | some (.loop _ _ _ _ ps _ _ _) => match Nat.beq args.length ps.toList.length with
        | true => some (.call (.yield l) args)
        | false => none
      | _ => none
    | _, _ => none
def evC_invoke (P : Program) (c : Call) (x : Operand) (name : String) (ρ : Operand → Option Value) : Option OpR :=
  match ρ x, opds ρ c.args.toList with
    | some (.iface t v), some args => match methE P t name with
      | some f => match bodied P f with
        | true => some (.call (.fn f) (v :: args))
        | false => none
      | none => none
    | _, _ => none
def evC_builtin (P : Program) (c : Call) (ty : TypeId) (ρ : Operand → Option Value) (H : Tr Blk) (nx : Nat) (b : Builtin) : Option OpR :=
  match b with
    | .len => evC_len P c ty ρ H nx
    | .cap => evC_cap P c ty ρ H nx
    | .min => evC_min P c ty ρ H nx
    | .max => evC_max P c ty ρ H nx
    | .append => evC_append P c ty ρ H nx
    | .copy => evC_copy P c ty ρ H nx
    | .delete => evC_delete P c ty ρ H nx
    | .clear => evC_clear P c ty ρ H nx
    | .unsafeSliceData => evC_sliceData P c ρ H nx
    | .unsafeString => evC_str P c ρ H nx
    | .complex => evC_pure P c (Builtin.complex_ c.argTypes ty) ρ H nx
    | .real => evC_pure P c (Builtin.real_ c.argTypes ty) ρ H nx
    | .imag => evC_pure P c (Builtin.imag_ c.argTypes ty) ρ H nx
    | _ => none
def evCall (P : Program) (c : Call) (ty : TypeId) (ρ : Operand → Option Value) (H : Tr Blk) (nx : Nat) : Option OpR :=
  match c.callee with
  | .value g => evC_value P c g ρ H nx
  | .builtin b => evC_builtin P c ty ρ H nx b
  | .invoke x name => evC_invoke P c x name ρ
omit [Tab] in
theorem map_eq {α β : Type} (a : Array α) (f : α → β) : a.map f = ⟨a.toList.map f⟩ := by apply Array.ext'; simp
omit [Tab] in
theorem one_of {α : Type} {a : Array α} {x : α} (h : a.toList = [x]) : a = #[x] := by apply Array.ext'; simpa using h
theorem two_of {x y : Value} {l : List Value} (h : VRs M σ [x, y] l) : ∃ x' y', l = [x', y'] ∧ VR M σ x x' ∧ VR M σ y y' := by
  cases h with
  | cons h1 h2 => cases h2 with
    | cons h3 h4 => cases h4; exact ⟨_, _, rfl, h1, h3⟩
theorem evCall_ok (hH : HR M σ H.get w) {c : Call} {ρ : Operand → Option Value} {η : Operand → Value} (hη : Opd M σ ρ η) {o : Oper} {r : OpR} {nx : Nat} (h : evCall P c o.type ρ H nx = some r) (ho : o.op = .call c) :
    Snd M σ H w ((execOp η o).run P w) r := by
  unfold evCall at h
  split at h
  · rename_i g hg
    unfold evC_value at h
    split at h
    · rename_i f first captured args hf hargs
      split at h
      · rename_i hb
        cases h
        have hfr := hη _ _ hf
        have har := opds_vr hη hargs
        generalize hgg : η g = gv at hfr
        cases hfr with
        | func _ h1 h2 =>
          rename_i us vs
          refine ⟨us ++ c.args.toList.map η ++ vs, ?_, (h1.append har).append h2⟩
          simp only [execOp, ho, resolve, hg, hgg, Deferred.ofValue, Sem.run_bind, Sem.run_pure, Result.andThen_ok, invoke]
          rw [callFunc_run hb]
          congr 2
          rw [map_eq]
          apply Array.ext'
          simp
      · have hfr := hη _ _ hf
        have har := opds_vr hη hargs
        generalize hgg : η g = gv at hfr
        cases hfr with
        | func _ h1 h2 =>
          rename_i us vs
          have := extF_ok (P := P) hH ((h1.append har).append h2) Tab.table TabOK.ok h
          have e1 : (execOp η o).run P w = (callFunc f (us ++ c.args.toList.map η ++ vs).toArray).run P w := by
            simp only [execOp, ho, resolve, hg, hgg, Deferred.ofValue, Sem.run_bind, Sem.run_pure, Result.andThen_ok, invoke]
            congr 2
            rw [map_eq]
            apply Array.ext'
            simp
          rw [e1]
          exact this
    · rename_i l args hf hargs
      split at h
      · rename_i st pe tm nt ps asg body df hg'
        split at h
        · rename_i hlen
          cases h
          have hfr := hη _ _ hf
          have har := opds_vr hη hargs
          generalize hgg : η g = gv at hfr
          cases hfr with
          | yield hm =>
            rename_i p
            obtain ⟨L, h1, h2, h3, h4, h5, -⟩ := hH.at hg' rfl hm
            refine ⟨c.args.toList.map η, p, L, hm, h1, ?_, har⟩
            have hsz : (c.args.map η).size = L.params.size := by
              have := har.length
              have h6 := Nat.eq_of_beq_eq_true hlen
              rw [h5]
              simp only [Array.size_map, List.length_map, Array.length_toList] at this h6 ⊢
              omega
            simp only [execOp, ho, resolve, hg, hgg, Deferred.ofValue, Sem.run_bind, Sem.run_pure, Result.andThen_ok, invoke, Instr.yield]
            have hget : (Instr.getLoop p.b).run P w = .ok L w := by
              simp only [Instr.getLoop, getObj, Sem.run_bind, Sem.run, h1, Result.andThen_ok]
              rfl
            rw [hget]
            simp only [Result.andThen_ok, Array.empty_append, hsz, ne_eq, not_true, if_false, Sem.run_pure, Sem.run_bind]
            congr 2
            unfold roundTmps
            rw [map_eq]
        · cases h
      · cases h
    · cases h
  · rename_i b hb
    unfold evC_builtin at h
    split at h
    · unfold evC_len at h
      split at h
      · rename_i t x ht hx
        obtain ⟨y, hy, rfl⟩ := pureO_eq h
        have har := opds_vr hη hx
        have hl := har.length
        obtain ⟨z, hz⟩ : ∃ z, c.args.toList.map η = [z] := by
          match h3 : c.args.toList.map η, hl with
          | [z], _ => exact ⟨z, rfl⟩
        rw [hz] at har
        cases har with
        | cons hxz _ =>
          split at hy
          · rename_i y' hy'
            cases hy
            obtain ⟨e1, e2⟩ := evLen_run (P := P) (w := w) hH hy' hxz o.type
            refine ⟨y, .inl ?_, VR.of_clean _ e2⟩
            simp only [execOp, ho, resolve, hb, Sem.run_bind, Sem.run_pure, Result.andThen_ok, invoke, builtin, one_of ht, map_eq, hz, e1]
          · obtain ⟨f1, f2, f3⟩ := lenF_ok (P := P) (σ := σ) TabOK.ok hy
            refine ⟨inst σ y, .inl ?_, f2.vr⟩
            rw [f1.eq hxz] at hz
            simp only [execOp, ho, resolve, hb, Sem.run_bind, Sem.run_pure, Result.andThen_ok, invoke, builtin, one_of ht, map_eq, hz, f3]
      · cases h
    · unfold evC_cap at h
      split at h
      · rename_i t x ht hx
        obtain ⟨y, hy, rfl⟩ := pureO_eq h
        have har := opds_vr hη hx
        have hl := har.length
        obtain ⟨z, hz⟩ : ∃ z, c.args.toList.map η = [z] := by
          match h3 : c.args.toList.map η, hl with
          | [z], _ => exact ⟨z, rfl⟩
        rw [hz] at har
        cases har with
        | cons hxz _ =>
          obtain ⟨e1, e2⟩ := evCap_run (P := P) (w := w) hy hxz o.type
          refine ⟨y, .inl ?_, VR.of_clean _ e2⟩
          simp only [execOp, ho, resolve, hb, Sem.run_bind, Sem.run_pure, Result.andThen_ok, invoke, builtin, one_of ht, map_eq, hz, e1]
      · cases h
    · unfold evC_min at h
      split at h
      · rename_i args hargs
        split at h
        · rename_i hc
          obtain ⟨y, hy, rfl⟩ := pureO_eq h
          have e := (opds_vr hη hargs).eq_of_clean hc
          obtain ⟨h1, h2⟩ := evClean_sound (w := w) hy
          refine ⟨y, .inl ?_, VR.of_clean _ h2⟩
          simp only [execOp, ho, resolve, hb, Sem.run_bind, Sem.run_pure, Result.andThen_ok, invoke, builtin, map_eq, e, h1]
        · split at h
          · rename_i x y hc
            obtain ⟨r, hr, rfl⟩ := pureO_eq h
            obtain ⟨x', y', hz, hxx, hyy⟩ := two_of (opds_vr hη hargs)
            obtain ⟨f1, f2, f3, f4⟩ := mxF_ok (P := P) (σ := σ) TabOK.ok hr
            have f5 := f4 c.argTypes o.type w
            simp only [if_true, Bool.false_eq_true, if_false] at f5
            refine ⟨inst σ r, .inl ?_, f3.vr⟩
            rw [f1.eq hxx, f2.eq hyy] at hz
            simp only [execOp, ho, resolve, hb, Sem.run_bind, Sem.run_pure, Result.andThen_ok, invoke, builtin, map_eq, hz, f5]
          · cases h
      · cases h
    · unfold evC_max at h
      split at h
      · rename_i args hargs
        split at h
        · rename_i hc
          obtain ⟨y, hy, rfl⟩ := pureO_eq h
          have e := (opds_vr hη hargs).eq_of_clean hc
          obtain ⟨h1, h2⟩ := evClean_sound (w := w) hy
          refine ⟨y, .inl ?_, VR.of_clean _ h2⟩
          simp only [execOp, ho, resolve, hb, Sem.run_bind, Sem.run_pure, Result.andThen_ok, invoke, builtin, map_eq, e, h1]
        · split at h
          · rename_i x y hc
            obtain ⟨r, hr, rfl⟩ := pureO_eq h
            obtain ⟨x', y', hz, hxx, hyy⟩ := two_of (opds_vr hη hargs)
            obtain ⟨f1, f2, f3, f4⟩ := mxF_ok (P := P) (σ := σ) TabOK.ok hr
            have f5 := f4 c.argTypes o.type w
            simp only [if_true, Bool.false_eq_true, if_false] at f5
            refine ⟨inst σ r, .inl ?_, f3.vr⟩
            rw [f1.eq hxx, f2.eq hyy] at hz
            simp only [execOp, ho, resolve, hb, Sem.run_bind, Sem.run_pure, Result.andThen_ok, invoke, builtin, map_eq, hz, f5]
          · cases h
      · cases h
    · unfold evC_append at h
      split at h
      · rename_i s t x y ht hx
        obtain ⟨x', y', hz, hxx, hyy⟩ := two_of (opds_vr hη hx)
        obtain ⟨v, H', nx', rfl, u, M', w', e1, e2, e3, e4⟩ := evAppend_ok (ty := o.type) hH hxx hyy h
        refine ⟨u, M', w', .inl ?_, e2, e3, e4⟩
        have ht' : c.argTypes = #[s, t] := by apply Array.ext'; simpa using ht
        simp only [execOp, ho, resolve, hb, Sem.run_bind, Sem.run_pure, Result.andThen_ok, invoke, builtin, ht', map_eq, hz, e1]
      · cases h
    · unfold evC_copy at h
      split at h
      · rename_i t ts x y ht hx
        obtain ⟨x', y', hz, hxx, hyy⟩ := two_of (opds_vr hη hx)
        obtain ⟨v, H', rfl, u, w', e1, e2, e3, e4⟩ := evCopy_ok (ty := o.type) (ts := ts) hH hxx hyy h
        refine ⟨u, M, w', .inl ?_, e2, e3, e4⟩
        have ht' : c.argTypes = ⟨t :: ts⟩ := by apply Array.ext'; simpa using ht
        simp only [execOp, ho, resolve, hb, Sem.run_bind, Sem.run_pure, Result.andThen_ok, invoke, builtin, ht', map_eq, hz, e1]
      · cases h
    · unfold evC_delete at h
      split at h
      · rename_i t ts x y ht hx
        obtain ⟨x', y', hz, hxx, hyy⟩ := two_of (opds_vr hη hx)
        obtain ⟨H', rfl, w', e1, e3, e4⟩ := evDelete_ok (ty := o.type) (ts := ts) hH hxx hyy h
        refine ⟨.tuple #[], M, w', .inl ?_, .tuple .nil, e3, e4⟩
        have ht' : c.argTypes = ⟨t :: ts⟩ := by apply Array.ext'; simpa using ht
        simp only [execOp, ho, resolve, hb, Sem.run_bind, Sem.run_pure, Result.andThen_ok, invoke, builtin, ht', map_eq, hz, e1]
      · cases h
    · unfold evC_clear at h
      split at h
      · rename_i t ts x ht hx
        have har := opds_vr hη hx
        obtain ⟨x', hz, hxx⟩ : ∃ x', c.args.toList.map η = [x'] ∧ VR M σ x x' := by
          generalize c.args.toList.map η = l at har
          cases har with
          | cons h1 h2 => cases h2; exact ⟨_, rfl, h1⟩
        obtain ⟨H', rfl, w', e1, e3, e4⟩ := evClear_ok (ty := o.type) (ts := ts) hH hxx h
        refine ⟨.tuple #[], M, w', .inl ?_, .tuple .nil, e3, e4⟩
        have ht' : c.argTypes = ⟨t :: ts⟩ := by apply Array.ext'; simpa using ht
        simp only [execOp, ho, resolve, hb, Sem.run_bind, Sem.run_pure, Result.andThen_ok, invoke, builtin, ht', map_eq, hz, e1]
      · cases h
    · unfold evC_sliceData at h
      split at h
      · rename_i i off sp l cp hx
        split at h
        · rename_i hcp
          cases h
          have hcp := blt_lt hcp
          have har := opds_vr hη hx
          generalize hl : c.args.toList.map η = l' at har
          cases har with
          | cons hv h0 =>
            cases h0
            cases hv with
            | slice _ _ _ hp =>
              rename_i p
              have e1 := Lib.run_unsafeSliceData_row (P := P) w c.argTypes o.type ⟨p.b, p.s + off, none⟩ l cp (by omega)
              refine ⟨.pointer (some ⟨p.b, p.s + off, none⟩), M, w, .inl ?_, .ptr off hp, hH, Stp.refl _ _ _⟩
              simp only [execOp, ho, resolve, hb, Sem.run_bind, Sem.run_pure, Result.andThen_ok, invoke, builtin, map_eq, hl, e1]
            | grown _ e _ _ c' hp hlm hmc hcn =>
              rename_i p
              have e1 := Lib.run_unsafeSliceData_row (P := P) w c.argTypes o.type ⟨p.b, p.s + off, none⟩ l c' (by omega)
              refine ⟨.pointer (some ⟨p.b, p.s + off, none⟩), M, w, .inl ?_, .ptr off hp, hH, Stp.refl _ _ _⟩
              simp only [execOp, ho, resolve, hb, Sem.run_bind, Sem.run_pure, Result.andThen_ok, invoke, builtin, map_eq, hl, e1]
        · cases h
      · rename_i l cp hx
        cases h
        have har := opds_vr hη hx
        generalize hl : c.args.toList.map η = l' at har
        cases har with
        | cons hv h0 =>
          cases h0
          cases hv
          have e1 := Lib.run_unsafeSliceData_nil (P := P) w c.argTypes o.type l cp
          refine ⟨.pointer none, M, w, .inl ?_, .nilp, hH, Stp.refl _ _ _⟩
          simp only [execOp, ho, resolve, hb, Sem.run_bind, Sem.run_pure, Result.andThen_ok, invoke, builtin, map_eq, hl, e1]
      · cases h
    · unfold evC_str at h
      split at h
      · rename_i pt it pv n ht hx
        have ht' : c.argTypes = #[pt, it] := by apply Array.ext'; simpa using ht
        have har := opds_vr hη hx
        generalize hl : c.args.toList.map η = l' at har
        cases har with
        | cons hv h0 => cases h0 with
          | cons hi h00 =>
            cases h00
            cases hi
            have zero : ∀ a : Option Addr, (Builtin.unsafeString_ #[pt, it] o.type #[.pointer a, .int .i64 (Int.ofNat 0)]).run P w = .ok (.string .empty) w := fun a => Lib.run_unsafeString_none (P := P) w pt it o.type a
            split at h
            · rename_i m
              split at h
              · split at h
                · cases h
                  cases hv
                  refine ⟨.string .empty, M, w, .inl ?_, .str _, hH, Stp.refl _ _ _⟩
                  simp only [execOp, ho, resolve, hb, Sem.run_bind, Sem.run_pure, Result.andThen_ok, invoke, builtin, map_eq, hl, ht', zero]
                · cases h
                  cases hv
                  refine ⟨.string .empty, M, w, .inl ?_, .str _, hH, Stp.refl _ _ _⟩
                  simp only [execOp, ho, resolve, hb, Sem.run_bind, Sem.run_pure, Result.andThen_ok, invoke, builtin, map_eq, hl, ht', zero]
                · cases h
              · rename_i m'
                split at h
                · rename_i i off
                  cases hv with
                  | ptr _ hp =>
                    obtain ⟨u, H', w', rfl, e1, e2, e3, e4⟩ := strOf_ok (P := P) (it := it) (ty := o.type) hH hp (by omega) h
                    refine ⟨u, M, w', .inl ?_, e2, e3, e4⟩
                    have e1' : (Builtin.unsafeString_ #[pt, it] o.type #[.pointer (some ⟨_, _, none⟩), .int .i64 (Int.ofNat (m' + 1))]).run P w = .ok u w' := e1
                    simp only [execOp, ho, resolve, hb, Sem.run_bind, Sem.run_pure, Result.andThen_ok, invoke, builtin, map_eq, hl, ht', e1']
                · cases h
            · cases h
      · cases h
    · obtain ⟨y, rfl, e1, e2⟩ := evC_pure_ok (P := P) hH hη h
      refine ⟨y, M, w, .inl ?_, e2, hH, Stp.refl _ _ _⟩
      simp only [execOp, ho, resolve, hb, Sem.run_bind, Sem.run_pure, Result.andThen_ok, invoke, builtin, map_eq, e1]
    · obtain ⟨y, rfl, e1, e2⟩ := evC_pure_ok (P := P) hH hη h
      refine ⟨y, M, w, .inl ?_, e2, hH, Stp.refl _ _ _⟩
      simp only [execOp, ho, resolve, hb, Sem.run_bind, Sem.run_pure, Result.andThen_ok, invoke, builtin, map_eq, e1]
    · obtain ⟨y, rfl, e1, e2⟩ := evC_pure_ok (P := P) hH hη h
      refine ⟨y, M, w, .inl ?_, e2, hH, Stp.refl _ _ _⟩
      simp only [execOp, ho, resolve, hb, Sem.run_bind, Sem.run_pure, Result.andThen_ok, invoke, builtin, map_eq, e1]
    · cases h
  · rename_i x name hc
    unfold evC_invoke at h
    split at h
    · rename_i t v args hx hargs
      split at h
      · rename_i f hf
        split at h
        · rename_i hb
          cases h
          have hxr := hη _ _ hx
          have har := opds_vr hη hargs
          generalize hgg : η x = gv at hxr
          cases hxr with
          | iface _ hv =>
            rename_i u
            refine ⟨u :: c.args.toList.map η, ?_, .cons hv har⟩
            have hm := methE_run (P := P) (w := w) hf (P.types.size + (Made.depth - 1)) u
            have hd : P.types.size + Made.depth = P.types.size + (Made.depth - 1) + 1 := by
              have : 0 < Made.depth := by decide
              omega
            have e1 : (#[Value.iface t u] ++ c.args.map η)[0]? = some (Value.iface t u) := by
              rw [Array.getElem?_append_left (by simp)]; rfl
            have e2 : (#[Value.iface t u] ++ c.args.map η).extract 1 (#[Value.iface t u] ++ c.args.map η).size = c.args.map η := by
              apply Array.ext'
              have : (c.args.toList.map η).length = c.args.size := by simp
              simp [List.take_of_length_le, this]
            simp only [execOp, ho, resolve, hc, hgg, Sem.run_bind, Sem.run_pure, Result.andThen_ok, invoke, e1, e2, callMethod, run_program, hd, hm]
            rw [callFunc_run hb]
            congr 2
            rw [map_eq]
            apply Array.ext'
            simp
        · cases h
      · cases h
    · cases h

/-! ### an operation -/
def optE (ρ : Operand → Option Value) : Option Operand → Option (Option Value)
  | none => some none
  | some x => match ρ x with
    | some v => some (some v)
    | none => none
theorem optE_vr {ρ : Operand → Option Value} {η : Operand → Value} (hη : Opd M σ ρ η) {x : Option Operand} {r : Option Value} (h : optE ρ x = some r) :
    (r = none ∧ x.map η = none) ∨ ∃ a b, r = some a ∧ x.map η = some b ∧ VR M σ a b := by
  unfold optE at h
  split at h
  · cases h; exact .inl ⟨rfl, rfl⟩
  · split at h
    · rename_i v hv
      cases h; exact .inr ⟨_, _, rfl, rfl, hη _ _ hv⟩
    · cases h
def ev_pick (P : Program) (ρ : Operand → Option Value) (c : Operand) (a : Operand) (b : Operand) : Option OpR :=
  match ρ c with
    | some (.bool true) => pureO (ρ a)
    | some (.bool false) => pureO (ρ b)
    | _ => none
def ev_box (P : Program) (ρ : Operand → Option Value) (t : TypeId) (x : Operand) : Option OpR :=
  match ρ x with
    | some v => some (.new (.cells t v.cells.toList) ptrTo)
    | none => none
def ev_build (P : Program) (ρ : Operand → Option Value) (t : TypeId) (parts : Array (Nat × Operand)) : Option OpR :=
  match partsE ρ parts.toList with
    | some ps => evBuild P t ps
    | none => none
def ev_buildSlice (P : Program) (ρ : Operand → Option Value) (t : TypeId) (len : Nat) (parts : Array (Nat × Operand)) : Option OpR :=
  match partsE ρ parts.toList with
    | some ps => evBuildSlice P t len ps
    | none => none
def ev_load (P : Program) (ρ : Operand → Option Value) (H : Tr Blk) (nx : Nat) (t : TypeId) (a : Operand) : Option OpR :=
  match ρ a with
    | some (.pointer (some ⟨i, off, none⟩)) => pureO (loadE P t H i off)
    | some (.pointer (some ⟨i, off, some 0⟩)) => pureO (loadG P t i off)
    | _ => none
def ev_store (P : Program) (ρ : Operand → Option Value) (H : Tr Blk) (nx : Nat) (t : TypeId) (a : Operand) (x : Operand) : Option OpR :=
  match ρ a, ρ x with
    | some (.pointer (some ⟨i, off, none⟩)), some v => evStore P t H nx i off v
    | _, _ => none
def ev_nilCheck (P : Program) (ρ : Operand → Option Value) (x : Operand) : Option OpR :=
  match ρ x with
    | some v => match notNil v with
      | true => some (.pure v)
      | false => none
    | none => none
def ev_binOp (P : Program) (ρ : Operand → Option Value) (op : BinOp) (t : TypeId) (x : Operand) (z : Operand) : Option OpR :=
  match ρ x, ρ z with
    | some u, some v => pureO (match evBin P op t x z u v with | some y => some y | none => match binF op u v Tab.table with | some y => some y | none => seqF op t u v Tab.table)
    | _, _ => none
def ev_unOp (P : Program) (ρ : Operand → Option Value) (op : UnOp) (x : Operand) : Option OpR :=
  match ρ x with
    | some v => match clean v with
      | true => pureO (evClean P (Op.unary op v))
      | false => pureO (unF op v Tab.table)
    | none => none
/-- whole numbers that fit -/
def convFast (P : Program) (s d : TypeId) (v : Value) : Option Value :=
  match v with
  | .int _ n => match P.underlying s, P.underlying d with
    | some _, some (.int l) => match inK l n with
      | true => forceI n fun r => some (.int l r)
      | false => none
    | _, _ => none
  | _ => none
theorem convFast_run {s d : TypeId} {v y : Value} (h : convFast P s d v = some y) : (convert s d v).run P w = .ok y w ∧ clean y = true ∧ clean v = true := by
  unfold convFast at h
  split at h
  · split at h
    · rename_i hs hd
      split at h
      · rename_i hk
        rw [forceI_eq] at h
        cases h
        refine ⟨?_, rfl, rfl⟩
        simp [convert, run_underlying' hs, run_underlying' hd, Conv.intToInt, inK_wrap hk]
      · cases h
    · cases h
  · cases h
theorem evConvFast_ok {s d : TypeId} {x : Operand} {η : Operand → Value} {v : Value} (hv : VR M σ v (η x)) {y : Value} (h : convFast P s d v = some y) {o : Oper} (ho : o.op = .convert s d x) :
    Snd M σ H w ((execOp η o).run P w) (.pure y) := by
  obtain ⟨h1, h2, h3⟩ := convFast_run (P := P) (w := w) h
  rw [← hv.eq_of_clean h3] at h1
  exact ⟨y, .inl (by simp [execOp, ho, h1]), VR.of_clean _ h2⟩
def ev_convert (P : Program) (ρ : Operand → Option Value) (H : Tr Blk) (nx : Nat) (s : TypeId) (d : TypeId) (x : Operand) : Option OpR :=
  match ρ x with
    | some v => match convFast P s d v with
     | some y => some (.pure y)
     | none => match clean v with
      | true => match evClean P (convert s d v) with
        | some y => some (.pure y)
        | none => evConvH P s d v H nx
      | false => match convF s d v Tab.table with
        | some y => some (.pure y)
        | none => evConvH P s d v H nx
    | none => none
def ev_makeInterface (P : Program) (ρ : Operand → Option Value) (t : TypeId) (x : Operand) : Option OpR :=
  match ρ x, P.underlying t with
    | some v, some d => match d with
      | .interface _ => none
      | _ => some (.pure (.iface t v))
    | _, _ => none
def ev_makeFunc (P : Program) (ρ : Operand → Option Value) (f : Fn) (first : Array Operand) (captured : Array Operand) : Option OpR :=
  match f with
    | .func f => match opds ρ first.toList, opds ρ captured.toList with
      | some xs, some ys => some (.pure (.func (.func f) ⟨xs⟩ ⟨ys⟩))
      | _, _ => none
    | _ => none
def ev_makeSlice (P : Program) (ρ : Operand → Option Value) (t : TypeId) (l : Operand) (c : Operand) : Option OpR :=
  match ρ l, ρ c with
    | some a, some b => evMakeSlice P t a b
    | _, _ => none
def ev_slice (P : Program) (ρ : Operand → Option Value) (t : TypeId) (x : Operand) (lo : Option Operand) (hi : Option Operand) (mx : Option Operand) : Option OpR :=
  match mx with
    | none => match ρ x, optE ρ lo, optE ρ hi with
      | some v, some l, some h => evSlice P t v l h
      | _, _, _ => none
    | some mo => match hi with
      | some ho => match ρ x, optE ρ lo, ρ ho, ρ mo with
        | some v, some l, some h, some m => evSlice3 P t v l h m
        | _, _, _, _ => none
      | none => none
def ev_fieldAddr (P : Program) (ρ : Operand → Option Value) (s : TypeId) (x : Operand) (f : Nat) : Option OpR :=
  match ρ x with
    | some v => evFieldAddr P s f v
    | none => none
def ev_field (P : Program) (ρ : Operand → Option Value) (t : TypeId) (x : Operand) (f : Nat) : Option OpR :=
  match ρ x with
    | some v => evField P t f v
    | none => none
def ev_indexAddr (P : Program) (ρ : Operand → Option Value) (t : TypeId) (x : Operand) (ix : Operand) : Option OpR :=
  match ρ x, ρ ix with
    | some v, some i => evIndexAddr P t v i
    | _, _ => none
def ev_index (P : Program) (ρ : Operand → Option Value) (t : TypeId) (x : Operand) (ix : Operand) : Option OpR :=
  match ρ x, ρ ix with
    | some v, some i => evIndex P t v i
    | _, _ => none
def ev_extract (P : Program) (ρ : Operand → Option Value) (t : Operand) (ix : Nat) : Option OpR :=
  match ρ t with
    | some (.tuple ⟨cs⟩) => pureO cs[ix]?
    | _ => none
def ev_makeMap (P : Program) (ρ : Operand → Option Value) (t : TypeId) (r : Option Operand) : Option OpR :=
  match optE ρ r with
    | some x => evMakeMap P t (some x)
    | none => none
def ev_lookup (P : Program) (ρ : Operand → Option Value) (H : Tr Blk) (nx : Nat) (t : TypeId) (x : Operand) (k : Operand) (ok : Bool) : Option OpR :=
  match ρ x, ρ k with
    | some u, some v => pureO (evLookup P t u v ok H)
    | _, _ => none
def ev_mapUpdate (P : Program) (ρ : Operand → Option Value) (H : Tr Blk) (nx : Nat) (t : TypeId) (m : Operand) (k : Operand) (v : Operand) : Option OpR :=
  match ρ m, ρ k, ρ v with
    | some a, some b, some c => evMapUpdate P t a b c H nx
    | _, _, _ => none
def ev_mapEntry (P : Program) (ρ : Operand → Option Value) (H : Tr Blk) (nx : Nat) (t : TypeId) (m : Operand) (k : Operand) : Option OpR :=
  match ρ m, ρ k with
    | some a, some b => evMapEntry P t a b H nx
    | _, _ => none
def ev_entryStore (P : Program) (ρ : Operand → Option Value) (H : Tr Blk) (nx : Nat) (t : TypeId) (m : Operand) (s : Operand) (v : Operand) : Option OpR :=
  match ρ m, ρ s, ρ v with
    | some a, some b, some c => evEntryStore a b c H nx
    | _, _, _ => none
def ev_range (P : Program) (ρ : Operand → Option Value) (H : Tr Blk) (t : TypeId) (x : Operand) : Option OpR :=
  match ρ x with
    | some v => evRange P t v H
    | none => none
def ev_next (P : Program) (ρ : Operand → Option Value) (H : Tr Blk) (nx : Nat) (ty : TypeId) (it : Operand) (s : Bool) : Option OpR :=
  match s, ρ it with
    | false, some v => evNext ty v H nx
    | _, _ => none
def ev_entry (P : Program) (ρ : Operand → Option Value) (H : Tr Blk) (it : Operand) : Option OpR :=
  match ρ it with
    | some v => pureO (evEntry v H)
    | none => none
/-- what an operation does, made once -/
structure KO where
  run : (Operand → Option Value) → Tr Blk → Nat → Option OpR
def compO (P : Program) (ty : TypeId) (op : Op) : KO :=
  match op with
  | .move x => ⟨fun ρ H nx => pureO (ρ x)⟩
  | .assign x => ⟨fun ρ H nx => pureO (ρ x)⟩
  | .pick c a b => ⟨fun ρ H nx => ev_pick P ρ c a b⟩
  | .alloc t => ⟨fun ρ H nx => evAlloc P t⟩
  | .box t x => ⟨fun ρ H nx => ev_box P ρ t x⟩
  | .build t parts => ⟨fun ρ H nx => ev_build P ρ t parts⟩
  | .buildSlice t len parts => ⟨fun ρ H nx => ev_buildSlice P ρ t len parts⟩
  | .load t a => ⟨fun ρ H nx => ev_load P ρ H nx t a⟩
  | .store t a x => ⟨fun ρ H nx => ev_store P ρ H nx t a x⟩
  | .nilCheck x => ⟨fun ρ H nx => ev_nilCheck P ρ x⟩
  | .binOp op t x z _ => ⟨fun ρ H nx => ev_binOp P ρ op t x z⟩
  | .unOp op _ x => ⟨fun ρ H nx => ev_unOp P ρ op x⟩
  | .convert s d x => ⟨fun ρ H nx => ev_convert P ρ H nx s d x⟩
  | .makeInterface t x => ⟨fun ρ H nx => ev_makeInterface P ρ t x⟩
  | .makeFunc f first captured => ⟨fun ρ H nx => ev_makeFunc P ρ f first captured⟩
  | .makeSlice t l c => ⟨fun ρ H nx => ev_makeSlice P ρ t l c⟩
  | .slice t x lo hi mx => ⟨fun ρ H nx => ev_slice P ρ t x lo hi mx⟩
  | .fieldAddr s x f => ⟨fun ρ H nx => ev_fieldAddr P ρ s x f⟩
  | .field t x f => ⟨fun ρ H nx => ev_field P ρ t x f⟩
  | .indexAddr t x ix => ⟨fun ρ H nx => ev_indexAddr P ρ t x ix⟩
  | .index t x ix => ⟨fun ρ H nx => ev_index P ρ t x ix⟩
  | .extract t ix => ⟨fun ρ H nx => ev_extract P ρ t ix⟩
  | .call c => ⟨fun ρ H nx => evCall P c ty ρ H nx⟩
  | .makeMap t r => ⟨fun ρ H nx => ev_makeMap P ρ t r⟩
  | .lookup t x k ok => ⟨fun ρ H nx => ev_lookup P ρ H nx t x k ok⟩
  | .mapUpdate t m k v => ⟨fun ρ H nx => ev_mapUpdate P ρ H nx t m k v⟩
  | .insert t m k v => ⟨fun ρ H nx => ev_mapUpdate P ρ H nx t m k v⟩
  | .mapEntry t m k => ⟨fun ρ H nx => ev_mapEntry P ρ H nx t m k⟩
  | .entryStore t m s v => ⟨fun ρ H nx => ev_entryStore P ρ H nx t m s v⟩
  | .range t x => ⟨fun ρ H nx => ev_range P ρ H t x⟩
  | .next it s => ⟨fun ρ H nx => ev_next P ρ H nx ty it s⟩
  | .entry it => ⟨fun ρ H nx => ev_entry P ρ H it⟩
  | _ => ⟨fun ρ H nx => none⟩
def evOp (P : Program) (o : Oper) (ρ : Operand → Option Value) (H : Tr Blk) (nx : Nat) : Option OpR := (compO P o.type o.op).run ρ H nx
theorem evOp_ok (hH : HR M σ H.get w) {o : Oper} {ρ : Operand → Option Value} {η : Operand → Value} (hη : Opd M σ ρ η) {nx : Nat} {r : OpR} (h : evOp P o ρ H nx = some r) :
    Snd M σ H w ((execOp η o).run P w) r := by
  unfold evOp compO at h
  split at h <;> simp only at h
  · rename_i x ho
    obtain ⟨y, hy, rfl⟩ := pureO_eq h
    exact ⟨η x, .inl (by simp [execOp, ho]), hη _ _ hy⟩
  · rename_i x ho
    obtain ⟨y, hy, rfl⟩ := pureO_eq h
    exact ⟨η x, .inl (by simp [execOp, ho]), hη _ _ hy⟩
  · rename_i c a b ho
    unfold ev_pick at h
    split at h
    · rename_i hc
      obtain ⟨y, hy, rfl⟩ := pureO_eq h
      have e := (hη _ _ hc).eq_of_clean rfl
      exact ⟨η a, .inl (by simp [execOp, ho, e, asBool]), hη _ _ hy⟩
    · rename_i hc
      obtain ⟨y, hy, rfl⟩ := pureO_eq h
      have e := (hη _ _ hc).eq_of_clean rfl
      exact ⟨η b, .inl (by simp [execOp, ho, e, asBool]), hη _ _ hy⟩
    · cases h
  · rename_i t ho
    exact evAlloc_ok h ho η
  · rename_i t x ho
    unfold ev_box at h
    split at h
    · rename_i v hv; cases h; exact evBox_ok (hη _ _ hv) ho
    · cases h
  · rename_i t parts ho
    unfold ev_build at h
    split at h
    · rename_i ps hps; exact evBuild_ok hη hps h ho
    · cases h
  · rename_i t len parts ho
    unfold ev_buildSlice at h
    split at h
    · rename_i ps hps; exact evBuildSlice_ok hη hps h ho
    · cases h
  · rename_i t a ho
    unfold ev_load at h
    split at h
    · rename_i i off ha
      obtain ⟨y, hy, rfl⟩ := pureO_eq h
      exact evLoad_ok hH (hη _ _ ha) hy ho
    · rename_i i off ha
      obtain ⟨y, hy, rfl⟩ := pureO_eq h
      exact evLoadG_ok hH (hη _ _ ha) hy ho
    · cases h
  · rename_i t a x ho
    unfold ev_store at h
    split at h
    · rename_i i off v ha hx
      exact evStore_ok hH (hη _ _ ha) (hη _ _ hx) h ho
    · cases h
  · rename_i x ho
    unfold ev_nilCheck at h
    split at h
    · rename_i v hv
      split at h
      · rename_i hn; cases h; exact evNilCheck_ok (hη _ _ hv) hn ho
      · cases h
    · cases h
  · rename_i op t x z t' ho
    unfold ev_binOp at h
    split at h
    · rename_i u v hu hv
      obtain ⟨y, hy, rfl⟩ := pureO_eq h
      split at hy
      · rename_i y' hy'
        cases hy
        exact evBin_ok (hη _ _ hu) (hη _ _ hv) hy' ho
      · split at hy
        · rename_i y' hy'
          cases hy
          obtain ⟨f1, f2, f3, f4⟩ := binF_ok (P := P) (σ := σ) TabOK.ok hy'
          refine ⟨inst σ y, .inl ?_, f3.vr⟩
          have := f4 t x z w
          rw [← f1.eq (hη _ _ hu), ← f2.eq (hη _ _ hv)] at this
          simp only [execOp, ho]
          rw [Sem.run_bind, this]
          simp
        · obtain ⟨f1, f2⟩ := seqF_ok (P := P) (σ := σ) (w := w) TabOK.ok hy (hη _ _ hu) (hη _ _ hv) x z
          refine ⟨y, .inl ?_, VR.of_clean _ f1⟩
          simp only [execOp, ho]
          rw [Sem.run_bind, f2]
          simp
    · cases h
  · rename_i op t x ho
    unfold ev_unOp at h
    split at h
    · rename_i v hv
      split at h
      · rename_i hc
        obtain ⟨y, hy, rfl⟩ := pureO_eq h
        exact evUn_ok (hη _ _ hv) hc hy ho
      · obtain ⟨y, hy, rfl⟩ := pureO_eq h
        obtain ⟨f1, f2, f3⟩ := unF_ok (P := P) (σ := σ) TabOK.ok hy
        refine ⟨inst σ y, .inl ?_, f2.vr⟩
        have := f3 w
        rw [← f1.eq (hη _ _ hv)] at this
        simp only [execOp, ho]
        rw [Sem.run_bind, this]
        simp
    · cases h
  · rename_i s d x ho
    unfold ev_convert at h
    split at h
    · rename_i v hv
      split at h
      · rename_i y hy
        cases h
        exact evConvFast_ok (hη _ _ hv) hy ho
      split at h
      · rename_i hc
        split at h
        · rename_i y hy
          cases h
          exact evConv_ok (hη _ _ hv) hc hy ho
        · exact evConvH_ok hH (hη _ _ hv) h ho
      · split at h
        · rename_i y hy
          cases h
          obtain ⟨f1, f2, f3⟩ := convF_ok (P := P) (σ := σ) TabOK.ok hy
          refine ⟨inst σ y, .inl ?_, f2.vr⟩
          have := f3 w
          rw [← f1.eq (hη _ _ hv)] at this
          simp only [execOp, ho]
          rw [Sem.run_bind, this]
          simp
        · exact evConvH_ok hH (hη _ _ hv) h ho
    · cases h
  · rename_i t x ho
    unfold ev_makeInterface at h
    split at h
    · rename_i v d hv hd
      split at h
      · cases h
      · rename_i hne; cases h; exact evMakeIface_ok hd (fun ms e => hne ms e) (hη _ _ hv) ho
    · cases h
  · rename_i f first captured ho
    unfold ev_makeFunc at h
    split at h
    · split at h
      · rename_i xs ys h1 h2; cases h; exact evMakeFunc_ok hη h1 h2 ho
      · cases h
    · cases h
  · rename_i t l c ho
    unfold ev_makeSlice at h
    split at h
    · rename_i a b ha hb; exact evMakeSlice_ok (hη _ _ ha) (hη _ _ hb) h ho
    · cases h
  · rename_i t x lo hi mx ho
    unfold ev_slice at h
    split at h
    · split at h
      · rename_i v l hh hv hl hhi
        exact evSlice_ok (hη _ _ hv) (optE_vr hη hl) (optE_vr hη hhi) h ho
      · cases h
    · split at h
      · split at h
        · rename_i v l hh m hv hl hhi hm
          exact evSlice3_ok (hη _ _ hv) (optE_vr hη hl) (hη _ _ hhi) (hη _ _ hm) h ho
        · cases h
      · cases h
  · rename_i s x f ho
    unfold ev_fieldAddr at h
    split at h
    · rename_i v hv; exact evFieldAddr_ok (hη _ _ hv) h ho
    · cases h
  · rename_i t x f ho
    unfold ev_field at h
    split at h
    · rename_i v hv; exact evField_ok (hη _ _ hv) h ho
    · cases h
  · rename_i t x ix ho
    unfold ev_indexAddr at h
    split at h
    · rename_i v i hv hi; exact evIndexAddr_ok (hη _ _ hv) (hη _ _ hi) h ho
    · cases h
  · rename_i t x ix ho
    unfold ev_index at h
    split at h
    · rename_i v i hv hi; exact evIndex_ok (hη _ _ hv) (hη _ _ hi) h ho
    · cases h
  · rename_i t ix ho
    unfold ev_extract at h
    split at h
    · rename_i cs hcs
      obtain ⟨y, hy, rfl⟩ := pureO_eq h
      exact evExtract_ok (hη _ _ hcs) hy ho
    · cases h
  · rename_i c ho
    exact evCall_ok hH hη h ho
  · rename_i t rs ho
    unfold ev_makeMap at h
    split at h
    · rename_i x hx; exact evMakeMap_ok (optE_vr hη hx) h ho
    · cases h
  · rename_i t x k ok ho
    unfold ev_lookup at h
    split at h
    · rename_i u v hu hv
      obtain ⟨y, hy, rfl⟩ := pureO_eq h
      obtain ⟨u', e1, e2⟩ := evLookup_run hH (hη _ _ hu) (hη _ _ hv) hy
      exact ⟨u', .inl (by simp [execOp, ho, e1]), e2⟩
    · cases h
  · rename_i t m k v ho
    unfold ev_mapUpdate at h
    split at h
    · rename_i a b c ha hb hc
      obtain ⟨H', rfl, w', e1, e2, e3⟩ := evMapUpdate_ok hH (hη _ _ ha) (hη _ _ hb) (hη _ _ hc) h
      exact ⟨undef, M, w', .inr ⟨by simp [execOp, ho, e1], rfl⟩, undef_vr, e2, e3⟩
    · cases h
  · rename_i t m k v ho
    unfold ev_mapUpdate at h
    split at h
    · rename_i a b c ha hb hc
      obtain ⟨H', rfl, w', e1, e2, e3⟩ := evMapUpdate_ok hH (hη _ _ ha) (hη _ _ hb) (hη _ _ hc) h
      exact ⟨undef, M, w', .inr ⟨by simp [execOp, ho, e1], rfl⟩, undef_vr, e2, e3⟩
    · cases h
  · rename_i t m k ho
    unfold ev_mapEntry at h
    split at h
    · rename_i a b ha hb
      obtain ⟨v, H', rfl, u, w', e1, e2, e3, e4⟩ := evMapEntry_ok hH (hη _ _ ha) (hη _ _ hb) h
      exact ⟨u, M, w', .inl (by simp [execOp, ho, e1]), e2, e3, e4⟩
    · cases h
  · rename_i t m s v ho
    unfold ev_entryStore at h
    split at h
    · rename_i a b c ha hb hc
      obtain ⟨H', rfl, w', e1, e2, e3⟩ := evEntryStore_ok (P := P) (t := t) hH (hη _ _ ha) (hη _ _ hb) (hη _ _ hc) h
      exact ⟨undef, M, w', .inr ⟨by simp [execOp, ho, e1], rfl⟩, undef_vr, e2, e3⟩
    · cases h
  · rename_i t x ho
    unfold ev_range at h
    split at h
    · rename_i v hv; exact evRange_ok hH (hη _ _ hv) h ho
    · cases h
  · rename_i it s ho
    unfold ev_next at h
    split at h
    · rename_i v hv
      rcases evNext_run (P := P) hH (hη _ _ hv) h with ⟨y, rfl, hc, e1⟩ | ⟨y, H', rfl, u, w', e1, e2, e3, e4⟩
      · exact ⟨y, .inl (by simp [execOp, ho, e1]), VR.of_clean _ hc⟩
      · exact ⟨u, M, w', .inl (by simp [execOp, ho, e1]), e2, e3, e4⟩
    · cases h
  · rename_i it ho
    unfold ev_entry at h
    split at h
    · rename_i v hv
      obtain ⟨y, hy, rfl⟩ := pureO_eq h
      obtain ⟨u', e1, e2⟩ := evEntry_run (P := P) hH (hη _ _ hv) hy
      exact ⟨u', .inl (by simp [execOp, ho, e1]), e2⟩
    · cases h
  · cases h
end
end Go.Proofs.Ytdhdaknfmpfegaa.Ev
end
section
set_option linter.unusedVariables false
set_option linter.unusedSimpArgs false
set_option linter.unusedSectionVars false
namespace Go.Proofs.Ytdhdaknfmpfegaa.Ev
open Go Go.RowKit
variable [Tab]

/-- what waits until a function leaves: a mark, or a call -/
inductive Df where
  | mark (i : Nat)
  | call (f : FuncId) (args : List Value)
/-- the state of a function's body: its temporaries, the heap, the next block's number -/
structure St where
  tm : Tr (Nat × Value)
  H : Tr Blk
  nx : Nat
  df : List Df
/-- an operand, a target, a guard: what each does, made once -/
structure KX where
  run : Tr (Nat × Value) → Option Value
def opK : Operand → KX
  | .tmp t => ⟨fun tm => match tm.get (key t) with
    | some (t', x) => match Nat.beq t t' with | true => some x | false => none
    | none => none⟩
  | .const v => match clean v with | true => ⟨fun _ => some v⟩ | false => ⟨fun _ => none⟩
  | .func f => ⟨fun _ => some (.func (.func f) #[] #[])⟩
  | .global g => ⟨fun _ => some (.pointer (some ⟨g, 0, some 0⟩))⟩
def evO (tm : Tr (Nat × Value)) (x : Operand) : Option Value := (opK x).run tm
theorem evO_const (tm : Tr (Nat × Value)) (v : Value) : evO tm (.const v) = match clean v with | true => some v | false => none := by
  simp only [evO, opK]
  cases clean v <;> rfl
structure KP where
  run : Tr (Nat × Value) → Value → Option (Tr (Nat × Value))
def putK (nt : Nat) (dst : Option Tmp) : KP :=
  match dst with
  | none => ⟨fun tm _ => some tm⟩
  | some d => match Nat.blt d nt with | true => ⟨fun tm v => some (tm.set (key d) (d, v))⟩ | false => ⟨fun _ _ => none⟩
def putE (nt : Nat) (tm : Tr (Nat × Value)) (dst : Option Tmp) (v : Value) : Option (Tr (Nat × Value)) := (putK nt dst).run tm v
theorem putE_def (nt : Nat) (tm : Tr (Nat × Value)) (dst : Option Tmp) (v : Value) : putE nt tm dst v = match dst with
    | none => some tm
    | some d => match Nat.blt d nt with | true => some (tm.set (key d) (d, v)) | false => none := by
  unfold putE putK
  cases dst with
  | none => rfl
  | some d => simp only; cases Nat.blt d nt <;> rfl
structure KW where
  run : (Operand → Option Value) → Option Bool
def wantK (ops : List Oper) (g : Option (Nat × Bool)) : KW :=
  match g with
  | none => ⟨fun _ => some true⟩
  | some (j, want) => match ops[j]? with
    | some oj => match oj.dst with
      | some d => ⟨fun ρ => match ρ (.tmp d) with
        | some (.bool b) => some (match b, want with | true, true => true | false, false => true | _, _ => false)
        | some v => match clean v with | true => some false | false => none
        | none => none⟩
      | none => ⟨fun _ => some false⟩
    | none => ⟨fun _ => some false⟩
/-- does an operation come about? -/
def wantR (ops : List Oper) (ρ : Operand → Option Value) (o : Oper) : Option Bool := (wantK ops o.guard).run ρ
theorem wantR_def (ops : List Oper) (ρ : Operand → Option Value) (o : Oper) : wantR ops ρ o = match o.guard with
    | none => some true
    | some (j, want) => match ops[j]? with
      | some oj => match oj.dst with
        | some d => match ρ (.tmp d) with
          | some (.bool b) => some (match b, want with | true, true => true | false, false => true | _, _ => false)
          | some v => match clean v with | true => some false | false => none
          | none => none
        | none => some false
      | none => some false := by
  unfold wantR wantK
  cases o.guard with
  | none => rfl
  | some x =>
    obtain ⟨j, want⟩ := x
    simp only
    cases ops[j]? with
    | none => rfl
    | some oj => simp only; cases oj.dst <;> rfl
def wantE (ops : List Oper) (tm : Tr (Nat × Value)) (o : Oper) : Option Bool := wantR ops (evO tm) o
abbrev CallE := Tg → List Value → Tr Blk → Nat → Option (Value × Tr Blk × Nat)
/-- a call is put off -/
def deferE0 (P : Program) (ro : Option Nat) (ρ : Operand → Option Value) : Op → Option Df
  | .defer c => match ro, c.callee with
    | none, .value g => match ρ g, opds ρ c.args.toList with
      | some (.func (.func f) ⟨first⟩ ⟨captured⟩), some args => match bodied P f with
        | true => some (.call f (first ++ args ++ captured))
        | false => none
      | _, _ => none
    | _, _ => none
  | _ => none
def isDefer : Op → Bool
  | .defer _ => true
  | _ => false
def deferE (P : Program) (ro : Option Nat) (ρ : Operand → Option Value) (op : Op) : Option Df :=
  match isDefer op with
  | true => deferE0 P ro ρ op
  | false => none
theorem deferE_some {P : Program} {ro : Option Nat} {ρ : Operand → Option Value} {op : Op} {d : Df} (h : deferE P ro ρ op = some d) : deferE0 P ro ρ op = some d := by
  unfold deferE at h
  split at h
  · exact h
  · cases h
def stepNew (nt : Nat) (o : Oper) (st : St) (b : Blk) (mk : Nat → Value) : Option St :=
  match st.H.get (key st.nx) with
  | none => match putE nt st.tm o.dst (mk st.nx) with
    | some tm => forceN (st.nx + 1) fun n => some ⟨tm, st.H.set (key st.nx) b, n, st.df⟩
    | none => none
  | some _ => none
def stepCall (call : CallE) (nt : Nat) (o : Oper) (st : St) (f : Tg) (args : List Value) : Option St :=
  match call f args st.H st.nx with
  | some (v, H, nx) => match putE nt st.tm o.dst v with
    | some tm => some ⟨tm, H, nx, st.df⟩
    | none => none
  | none => none
def stepUpd (nt : Nat) (o : Oper) (st : St) (v : Value) (H : Tr Blk) (nx : Nat) : Option St :=
  match putE nt st.tm o.dst v with
  | some tm => forceN nx fun n => some ⟨tm, H, n, st.df⟩
  | none => none
def stepPut (nt : Nat) (o : Oper) (st : St) (v : Value) : Option St :=
  match putE nt st.tm o.dst v with
  | some tm => some ⟨tm, st.H, st.nx, st.df⟩
  | none => none
def stepRes (call : CallE) (nt : Nat) (o : Oper) (st : St) (r : Option OpR) : Option St :=
  match r with
  | some (.pure v) => stepPut nt o st v
  | some (.new b mk) => stepNew nt o st b mk
  | some (.upd v H nx) => stepUpd nt o st v H nx
  | some (.call f args) => stepCall call nt o st f args
  | none => none
def stepDefer (nt : Nat) (o : Oper) (st : St) (d : Df) : Option St :=
  match putE nt st.tm o.dst undef with
  | some tm => some ⟨tm, st.H, st.nx, d :: st.df⟩
  | none => none
def stepGo (P : Program) (call : CallE) (ro : Option Nat) (nt : Nat) (o : Oper) (st : St) : Option St :=
  match deferE P ro (evO st.tm) o.op with
  | some d => stepDefer nt o st d
  | none => stepRes call nt o st (evOp P o (evO st.tm) st.H st.nx)
def stepE (P : Program) (call : CallE) (ro : Option Nat) (nt : Nat) (ops : List Oper) (o : Oper) (st : St) : Option St :=
  match wantE ops st.tm o with
  | some false => stepPut nt o st undef
  | some true => stepGo P call ro nt o st
  | none => none
def stepsE (P : Program) (call : CallE) (ro : Option Nat) (nt : Nat) (ops : List Oper) : List Oper → St → Option St
  | [], st => some st
  | o :: l, st => match stepE P call ro nt ops o st with
    | some st => stepsE P call ro nt ops l st
    | none => none
inductive Ex where
  | normal | ret | exit (id : Nat)
def Ex.to : Ex → Exit
  | .normal => .normal
  | .ret => .ret
  | .exit id => .exit id
def loopE (f : St → Option (Ex × St)) : Nat → St → Option (Ex × St)
  | 0, _ => none
  | n + 1, st => match f st with
    | some (.normal, st) => loopE f n st
    | r => r
/-- what a drawn region comes to -/
abbrev DrawE := Nat → List Oper → St → Option St
/-- the value of a loop's yield -/
def yieldV (l : Nat) : Value := .func (.yield l) ⟨[]⟩ ⟨[]⟩
/-- the record of a range over a function is laid: its number, the heap, the next number, the marks -/
def enterE (ro : Option Nat) (nt : Nat) (ps : Array Tmp) (asg body : Code) (st : St) : Option (Nat × St) :=
  match ro with
  | none => match st.H.get (key st.nx) with
    | none => match (st.H.set (key st.nx) (.marks false)).get (key (st.nx + 1)) with
      | none => some (st.nx + 1, ⟨st.tm, (st.H.set (key st.nx) (.marks false)).set (key (st.nx + 1)) (.loop .ready none st.tm nt ps asg body st.nx), st.nx + 2, .mark st.nx :: st.df⟩)
      | some _ => none
    | some _ => none
  | some l => match st.H.get (key l), st.H.get (key st.nx) with
    | some (.loop _ _ _ _ _ _ _ d), none => some (st.nx, ⟨st.tm, st.H.set (key st.nx) (.loop .ready none st.tm nt ps asg body d), st.nx + 1, st.df⟩)
    | _, _ => none
/-- what a range over a function comes to, once the function has come back -/
def endE (l : Nat) (H : Tr Blk) : Option (Ex × Tr Blk) :=
  match H.get (key l) with
  | some (.loop s pe tm nt ps asg body d) => match s with
    | .busy => none
    | _ => match pe with
      | none => some (.normal, H.set (key l) (.loop .exhausted pe tm nt ps asg body d))
      | some .ret => some (.ret, H.set (key l) (.loop .exhausted pe tm nt ps asg body d))
      | some (.exit id) => some (.exit id, H.set (key l) (.loop .exhausted pe tm nt ps asg body d))
      | _ => none
  | _ => none
def execE (P : Program) (call : CallE) (draw : DrawE) (nt L : Nat) (ro : Option Nat) : Code → St → Option (Ex × St)
  | .skip, st => some (.normal, st)
  | .label _, st => some (.normal, st)
  | .region _ ops d, st => match d with
    | false => match stepsE P call ro nt ops.toList ops.toList st with
      | some st => some (.normal, st)
      | none => none
    | true => match draw nt ops.toList st with
      | some st => some (.normal, st)
      | none => none
  | .seq a b, st => match execE P call draw nt L ro a st with
    | some (.normal, st) => execE P call draw nt L ro b st
    | r => r
  | .cond c a b, st => match evO st.tm c with
    | some (.bool true) => execE P call draw nt L ro a st
    | some (.bool false) => execE P call draw nt L ro b st
    | _ => none
  | .block id a, st => match execE P call draw nt L ro a st with
    | some (.exit id', st) => match Nat.beq id' id with
      | true => some (.normal, st)
      | false => some (.exit id', st)
    | r => r
  | .loop a, st => loopE (execE P call draw nt L ro a) L st
  | .rangeFunc g ps asg body, st => match enterE ro nt ps asg body st, evO st.tm g with
    | some (l, st1), some (.func (.func f) ⟨first⟩ ⟨captured⟩) => match bodied P f with
      | true => match call (.fn f) (first ++ [yieldV l] ++ captured) st1.H st1.nx with
        | some (_, H, nx) => match endE l H with
          | some (ex, H) => some (ex, ⟨st1.tm, H, nx, st1.df⟩)
          | none => none
        | none => none
      | false => none
    | _, _ => none
  | .exit id, st => some (.exit id, st)
  | .ret, st => some (.ret, st)
  | _, _ => none
def resE (P : Program) (st : St) : List ResultVar → Option (List Value)
  | [] => some []
  | r :: rs => match (match r with
      | .tmp t => evO st.tm (.tmp t)
      | .cell a t => match evO st.tm (.tmp a) with
        | some (.pointer (some ⟨i, o, none⟩)) => loadE P t st.H i o
        | _ => none), resE P st rs with
    | some v, some vs => some (v :: vs)
    | _, _ => none
def oneE : List Value → Value
  | [v] => v
  | vs => .tuple ⟨vs⟩
def argsE : List Value → Nat → Tr (Nat × Value) → Tr (Nat × Value)
  | [], _, tm => tm
  | v :: vs, i, tm => argsE vs (i + 1) (tm.set (key i) (i, v))
/-- the marks of ranges over functions are struck when a function leaves, and what was put off is called -/
def leaveE (P : Program) (call : CallE) : List Df → Tr Blk → Nat → Option (Tr Blk × Nat)
  | [], H, nx => some (H, nx)
  | .mark i :: l, H, nx => match H.get (key i) with
    | some (.marks false) => leaveE P call l (H.set (key i) (.marks true)) nx
    | _ => none
  | .call f args :: l, H, nx => match bodied P f with
    | true => match call (.dfn f) args H nx with
      | some (_, H, nx) => leaveE P call l H nx
      | none => none
    | false => none
/-- the code of a function that was put off: it may ask 'recover' while nothing panics -/
def isRecover : Op → Bool
  | .call c => match c.callee with
    | .builtin .recover => true
    | _ => false
  | _ => false
def stepS (P : Program) (nt : Nat) (ops : List Oper) (o : Oper) (st : St) : Option St :=
  match wantE ops st.tm o with
  | some false => match putE nt st.tm o.dst undef with
    | some tm => some ⟨tm, st.H, st.nx, st.df⟩
    | none => none
  | some true => match isRecover o.op with
   | true => match putE nt st.tm o.dst .nilIface with
    | some tm => some ⟨tm, st.H, st.nx, st.df⟩
    | none => none
   | false => match evOp P o (evO st.tm) st.H st.nx with
    | some (.pure v) => match putE nt st.tm o.dst v with
      | some tm => some ⟨tm, st.H, st.nx, st.df⟩
      | none => none
    | some (.new b mk) => match st.H.get (key st.nx) with
      | none => match putE nt st.tm o.dst (mk st.nx) with
        | some tm => forceN (st.nx + 1) fun n => some ⟨tm, st.H.set (key st.nx) b, n, st.df⟩
        | none => none
      | some _ => none
    | some (.upd v H nx) => match putE nt st.tm o.dst v with
      | some tm => forceN nx fun n => some ⟨tm, H, n, st.df⟩
      | none => none
    | _ => none
  | none => none
def stepsS (P : Program) (nt : Nat) (ops : List Oper) : List Oper → St → Option St
  | [], st => some st
  | o :: l, st => match stepS P nt ops o st with
    | some st => stepsS P nt ops l st
    | none => none
def execS (P : Program) (call : CallE) (draw : DrawE) (nt L : Nat) : Code → St → Option (Ex × St)
  | .seq a b, st => match execS P call draw nt L a st with
    | some (.normal, st) => execS P call draw nt L b st
    | r => r
  | .cond c a b, st => match evO st.tm c with
    | some (.bool true) => execS P call draw nt L a st
    | some (.bool false) => execS P call draw nt L b st
    | _ => none
  | .region id ops d, st => match d, ops.toList.any (fun o => isRecover o.op) with
    | false, true => match stepsS P nt ops.toList ops.toList st with
      | some st => some (.normal, st)
      | none => none
    | _, _ => execE P call draw nt L none (.region id ops d) st
  | c, st => execE P call draw nt L none c st
def paramsE (nt : Nat) : List Tmp → List Value → Tr (Nat × Value) → Option (Tr (Nat × Value))
  | [], [], tm => some tm
  | t :: ts, v :: vs, tm => match Nat.blt t nt with
    | true => paramsE nt ts vs (tm.set (key t) (t, v))
    | false => none
  | _, _, _ => none
/-- the state of a loop's record behind a round -/
def roundEndE (l : Nat) (ex : Ex) (H : Tr Blk) : Option (Value × Tr Blk) :=
  match H.get (key l) with
  | some (.loop _ _ tm nt ps asg body d) => match ex with
    | .normal => some (.bool true, H.set (key l) (.loop .ready none tm nt ps asg body d))
    | .ret => some (.bool false, H.set (key l) (.loop .done (some .ret) tm nt ps asg body d))
    | .exit id => some (.bool false, H.set (key l) (.loop .done (some (.exit id)) tm nt ps asg body d))
  | _ => none
def roundBeginE (l : Nat) (H : Tr Blk) : Option (Tr Blk) :=
  match H.get (key l) with
  | some (.loop .ready pe tm nt ps asg body d) => some (H.set (key l) (.loop .busy pe tm nt ps asg body d))
  | _ => none
noncomputable def callE (P : Program) (draw : CallE → DrawE) (L : Nat) : Nat → CallE
  | 0, _, _, _, _ => none
  | n + 1, .fn f, args, H, nx => match callF f args Tab.table with
   | some y => some (y, H, nx)
   | none => match stF f args H nx Tab.table with
    | some r => some r
    | none => match P.funcs[f]? with
    | some fn => match fn.body with
      | some c => match execE P (callE P draw L n) (draw (callE P draw L n)) (args.length + (fn.ntmps - args.length)) L none c ⟨argsE args 0 .leaf, H, nx, []⟩ with
        | some (.exit _, _) => none
        | some (_, st) => match leaveE P (callE P draw L n) st.df st.H st.nx with
          | some (H, nx) => match resE P ⟨st.tm, H, nx, st.df⟩ fn.results.toList with
            | some vs => some (oneE vs, H, nx)
            | none => none
          | none => none
        | none => none
      | none => none
    | none => none
  | n + 1, .dfn f, args, H, nx => match P.funcs[f]? with
    | some fn => match fn.body with
      | some c => match execS P (callE P draw L n) (draw (callE P draw L n)) (args.length + (fn.ntmps - args.length)) L c ⟨argsE args 0 .leaf, H, nx, []⟩ with
        | some (.exit _, _) => none
        | some (_, st) => match st.df with
          | [] => match resE P st fn.results.toList with
            | some vs => some (oneE vs, st.H, st.nx)
            | none => none
          | _ => none
        | none => none
      | none => none
    | none => none
  | n + 1, .yield l, args, H, nx => match H.get (key l) with
    | some (.loop _ _ tm nt ps asg body _) => match paramsE nt ps.toList args tm with
      | some tm => match execE P (callE P draw L n) (draw (callE P draw L n)) nt L (some l) asg ⟨tm, H, nx, []⟩ with
        | some (.normal, st) => match roundBeginE l st.H with
          | some H => match execE P (callE P draw L n) (draw (callE P draw L n)) nt L (some l) body ⟨st.tm, H, st.nx, st.df⟩ with
            | some (ex, st) => match roundEndE l ex st.H with
              | some (v, H) => some (v, H, st.nx)
              | none => none
            | none => none
          | none => none
        | _ => none
      | none => none
    | _ => none

section
variable {P : Program} {M M' : Mp} {σ : Nat → Value} [TabOK P σ] {w : World}
/-- the temporaries stand for those of the model -/
def TR (M : Mp) (σ : Nat → Value) (nt : Nat) (tm : Tr (Nat × Value)) (a : Act) : Prop := TRv M σ nt tm a.tmps
/-- the marks -/
inductive DR (M : Mp) (σ : Nat → Value) : List Df → List Deferred → Prop where
  | nil : DR M σ [] []
  | mark (i : Nat) {l : List Df} {ds : List Deferred} {p : Place} (hp : M (key i) = some p) (h : DR M σ l ds) : DR M σ (.mark i :: l) ({ target := .collected p.b, args := #[] } :: ds)
  | call (f : FuncId) {l : List Df} {ds : List Deferred} {xs : List Value} {vs captured : Array Value} (hv : VRs M σ xs (vs.toList ++ captured.toList)) (h : DR M σ l ds) : DR M σ (.call f xs :: l) ({ target := .fn (.func f) captured, args := vs } :: ds)
theorem DR.mono {l : List Df} {ds : List Deferred} (hl : Le M M') (h : DR M σ l ds) : DR M' σ l ds := by
  induction h with
  | nil => exact .nil
  | mark i hp _ ih => exact .mark i (hl _ _ hp) ih
  | call f hv _ ih => exact .call f (hv.mono hl) ih
structure SR (M : Mp) (σ : Nat → Value) (nt : Nat) (st : St) (a : Act) (w : World) : Prop where
  tm : TR M σ nt st.tm a
  hp : HR M σ st.H.get w
  df : DR M σ st.df a.defers
/-- the frame of a function, or of a round -/
def FR (r : Option Nat) : Fence := { Fence.wide with round := r }
theorem FR_fn (r : Option Nat) (f : FuncId) : (FR r).fn f := trivial
theorem FR_depth {r : Option Nat} {n : Nat} (h : (FR r).depth.isSome = true) : 1 ≤ n := by cases h
theorem calls_FR {r : Option Nat} {n : Nat} {f : FuncId} {args : Array Value} {R : Ending → World → Prop} (h : Calls P f args w R) : CallsIn (FR r) n P f args w R :=
  callsIn_wide.2 h
/-- the round that a frame is of -/
inductive RR (M : Mp) : Option Nat → Option Nat → Prop where
  | none : RR M none none
  | some {l : Nat} {p : Place} (h : M (key l) = some p) : RR M (some l) (some p.b)
theorem RR.mono {ro r : Option Nat} (hl : Le M M') (h : RR M ro r) : RR M' ro r := by
  cases h with
  | none => exact .none
  | some h => exact .some (hl _ _ h)
theorem TR.mono {nt : Nat} {tm : Tr (Nat × Value)} {a : Act} (hl : Le M M') (h : TR M σ nt tm a) : TR M' σ nt tm a :=
  ⟨h.1, fun k t x e => let ⟨h1, h2, h3⟩ := h.2 k t x e; ⟨h1, h2, h3.mono hl⟩⟩
theorem TR.opd {nt : Nat} {tm : Tr (Nat × Value)} {a : Act} (h : TR M σ nt tm a) : Opd M σ (evO tm) a.eval := by
  intro x y e
  cases x with
  | tmp t =>
    simp only [evO, opK] at e
    split at e
    · rename_i t' x' ht
      split at e
      · rename_i hb
        cases e
        have := Nat.eq_of_beq_eq_true hb
        subst this
        exact (h.2 _ _ _ ht).2.2
      · cases e
    · cases e
  | const v =>
    rw [evO_const] at e
    split at e
    · rename_i hc; cases e; exact VR.of_clean _ hc
    · cases e
  | func f => simp only [evO, opK] at e; cases e; exact .func f .nil .nil
  | global g => simp only [evO, opK] at e; cases e; exact .abs g 0
theorem TR.put {nt : Nat} {tm tm' : Tr (Nat × Value)} {a : Act} (h : TR M σ nt tm a) {dst : Option Tmp} {x v : Value} (hr : VR M σ x v) (e : putE nt tm dst x = some tm') : TR M σ nt tm' (a.put dst v) := by
  rw [putE_def] at e
  split at e
  · cases e; exact h
  · rename_i d
    split at e
    · rename_i hd
      cases e
      have hd := blt_lt hd
      refine ⟨by simp [Act.put, h.1], fun k t y hk => ?_⟩
      rw [Tr.get_set] at hk
      split at hk
      · rename_i hkk
        cases hk
        refine ⟨hkk, hd, ?_⟩
        simpa [Act.put, Array.getD, h.1, hd] using hr
      · rename_i hkk
        obtain ⟨h1, h2, h3⟩ := h.2 _ _ _ hk
        refine ⟨h1, h2, ?_⟩
        have hne : d ≠ t := by rintro rfl; exact hkk h1
        simpa [Act.put, Array.getD_eq_getD_getElem?, Array.getElem?_setIfInBounds_ne hne] using h3
    · cases e
theorem wantR_ok {ops : List Oper} {opa : Array Oper} (hops : opa.toList = ops) {ρ : Operand → Option Value} {a : Act} (h : Opd M σ ρ a.eval) (hlt : ∀ d x, ρ (.tmp d) = some x → d < a.tmps.size) {o : Oper} {b : Bool} (e : wantR ops ρ o = some b) : Region.wanted o (yielded opa a.tmps) = b := by
  rw [wantR_def] at e
  split at e
  · rename_i hg; cases e; simp [Region.wanted, hg]
  · rename_i j want hg
    have hget : ∀ k : Nat, opa[k]? = ops[k]? := fun k => by rw [← hops]; simp
    split at e
    · rename_i oj hj
      split at e
      · rename_i d hd
        split at e
        · rename_i b' hb
          have hr := (h _ _ hb).eq_of_clean rfl
          have hl := hlt _ _ hb
          have hx : a.tmps[d]? = some a.tmps[d] := by simp [hl]
          have hx' : a.tmps[d] = .bool b' := by simpa [Act.eval, Array.getD_eq_getD_getElem?, hx] using hr
          cases e
          cases b' <;> cases want <;> simp [Region.wanted, hg, yielded, hget, hj, hd, hx, hx']
        · rename_i v hv hne
          split at e
          · rename_i hc
            cases e
            have hr := (h _ _ hne).eq_of_clean hc
            simp only [Region.wanted, hg, yielded, hget, hj, hd, Option.bind_some]
            cases hx : a.tmps[d]? with
            | none => rfl
            | some x =>
              have hx' : x = v := by simpa [Act.eval, Array.getD_eq_getD_getElem?, hx] using hr
              subst hx'
              cases x <;> first | rfl | (exact absurd rfl (hv _))
          · cases e
        · cases e
      · rename_i hd
        cases e
        simp [Region.wanted, hg, yielded, hget, hj, hd]
    · rename_i hj
      cases e
      simp [Region.wanted, hg, yielded, hget, hj]
theorem TR.lt {nt : Nat} {tm : Tr (Nat × Value)} {a : Act} (h : TR M σ nt tm a) (d : Nat) (x : Value) (e : evO tm (.tmp d) = some x) : d < a.tmps.size := by
  simp only [evO, opK] at e
  split at e
  · rename_i t' x' ht
    split at e
    · rename_i hbb
      have := Nat.eq_of_beq_eq_true hbb
      subst this
      rw [h.1]
      exact (h.2 _ _ _ ht).2.1
    · cases e
  · cases e
theorem wantE_ok {nt : Nat} {ops : List Oper} {opa : Array Oper} (hops : opa.toList = ops) {tm : Tr (Nat × Value)} {a : Act} (h : TR M σ nt tm a) {o : Oper} {b : Bool} (e : wantE ops tm o = some b) : Region.wanted o (yielded opa a.tmps) = b :=
  wantR_ok hops h.opd h.lt e
/-- the callee does what is said of it -/
structure CallOK (P : Program) (σ : Nat → Value) (call : CallE) : Prop where
  fn : ∀ f args H nx v H' nx', call (.fn f) args H nx = some (v, H', nx') → ∀ M w vs, HR M σ H.get w → VRs M σ args vs →
    Calls P f vs.toArray w fun e w' => ∃ u M', e = .returned u ∧ VR M' σ v u ∧ HR M' σ H'.get w' ∧ Stp M H.get w M' H'.get w'
  yield : ∀ l args H nx v H' nx', call (.yield l) args H nx = some (v, H', nx') → ∀ M w vs p L r, HR M σ H.get w → VRs M σ args vs → M (key l) = some p → w.heap[p.b]? = some (.loop L) →
    RoundIn (FR r) 0 P p.b L.fn (roundTmps L vs.toArray) L.assign L.body w fun e w' => ∃ u M', e = .returned u ∧ VR M' σ v u ∧ HR M' σ H'.get w' ∧ Stp M H.get w M' H'.get w'
  dfn : ∀ f args H nx v H' nx', call (.dfn f) args H nx = some (v, H', nx') → ∀ M w vs, HR M σ H.get w → VRs M σ args vs →
    CallsDIn Fence.wide 0 P f vs.toArray .returning w fun e u' w' => u' = .returning ∧ ∃ u M', e = .returned u ∧ VR M' σ v u ∧ HR M' σ H'.get w' ∧ Stp M H.get w M' H'.get w'
theorem evOp_nodefer {H : Tr Blk} {o : Oper} {ρ : Operand → Option Value} {nx : Nat} {r : OpR} (h : evOp P o ρ H nx = some r) : ∀ c, o.op ≠ .defer c := by
  intro c e
  simp [evOp, compO, e] at h
/-- an operation that ends so is gone through -/
theorem snd_wp {call : CallE} (hcall : CallOK P σ call) {H : Tr Blk} {o : Oper} {nx : Nat} {x : OpR} {a : Act} {r : Option Nat} (hnd : ∀ c, o.op ≠ .defer c) (hH : HR M σ H.get w) (hs : Snd M σ H w ((execOp a.eval o).run P w) x)
    {K : Act → World → Prop} {Q : Exit → Act → World → Prop}
    (hp : ∀ v u, x = .pure v → VR M σ v u → K (a.put o.dst u) w)
    (hn : ∀ b mk ob n u, x = .new b mk → b.live = true → (∀ M', Le M M' → BR M' σ b ⟨w.heap.size, 0, n⟩ (w.alloc ob)) → (∀ (id : Nat) (M' : Mp), M' (key id) = some ⟨w.heap.size, 0, n⟩ → VR M' σ (mk id) u) → K (a.put o.dst u) (w.alloc ob))
    (hu : ∀ v H' nx' u M' w', x = .upd v H' nx' → VR M' σ v u → HR M' σ H'.get w' → Stp M H.get w M' H'.get w' → K (a.put o.dst u) w')
    (hc : ∀ t args, x = .call t args → ∃ v H' nx', call t args H nx = some (v, H', nx') ∧ ∀ u M' w', VR M' σ v u → HR M' σ H'.get w' → Stp M H.get w M' H'.get w' → K (a.put o.dst u) w') :
    o.wpIn (FR r) 0 P a w K Q := by
  refine ⟨fun f _ => FR_fn r f, ?_⟩
  rw [Oper.semAt_eq _ _ _ hnd]
  cases x with
  | pure v =>
    obtain ⟨u, hr, hvr⟩ := hs
    have := hp v u rfl hvr
    rcases hr with hr | ⟨hr, rfl⟩ <;> rw [hr] <;> exact this
  | new b mk =>
    obtain ⟨hl, ob, n, u, hr, hb, hmk⟩ := hs
    rw [hr]; exact hn b mk ob n u rfl hl hb hmk
  | upd v H' nx' =>
    obtain ⟨u, M', w', hr, hvr, hH', hst⟩ := hs
    have := hu v H' nx' u M' w' rfl hvr hH' hst
    rcases hr with hr | ⟨hr, rfl⟩ <;> rw [hr] <;> exact this
  | call t args =>
    obtain ⟨v, H', nx', hcl, hk⟩ := hc t args rfl
    cases t with
    | fn f =>
      obtain ⟨vs, hr, hvs⟩ := hs
      rw [hr]
      refine ⟨FR_depth, (calls_FR (hcall.fn _ _ _ _ _ _ _ hcl M w vs hH hvs)).mono ?_⟩
      rintro en w' ⟨u, M', rfl, hvr, hH', hst⟩
      exact hk u M' w' hvr hH' hst
    | yield l =>
      obtain ⟨vs, p, L, hm, hL, hr, hvs⟩ := hs
      rw [hr]
      refine ⟨FR_depth, (hcall.yield _ _ _ _ _ _ _ hcl M w vs p L r hH hvs hm hL).mono ?_⟩
      rintro en w' ⟨u, M', rfl, hvr, hH', hst⟩
      exact hk u M' w' hvr hH' hst
    | dfn f => exact hs.elim
theorem deferE_ok {ro r : Option Nat} {o : Oper} {ρ : Operand → Option Value} {a : Act} {d : Df} (e : deferE P ro ρ o.op = some d) (hη : Opd M σ ρ a.eval) (hr : RR M ro r) {K : Act → World → Prop} {Q : Exit → Act → World → Prop}
    (hK : ∀ ds, (∀ l ds', DR M σ l ds' → DR M σ (d :: l) (ds :: ds')) → K ({ a with defers := ds :: a.defers }.put o.dst undef) w) : o.wpIn (FR r) 0 P a w K Q := by
  replace e := deferE_some e
  unfold deferE0 at e
  split at e
  · rename_i c ho
    split at e
    · rename_i g hg
      cases hr
      split at e
      · rename_i f first captured args hf hargs
        split at e
        · rename_i hb
          cases e
          refine ⟨fun f _ => FR_fn _ f, ?_⟩
          have hfr := hη _ _ hf
          have har := opds_vr hη hargs
          generalize hgg : a.eval g = gv at hfr
          cases hfr with
          | func _ h1 h2 =>
            rename_i us vs
            have hrun : (o.semAt (FR none).round a.eval).run P w = .ok (.defer { target := .fn (.func f) ⟨vs⟩, args := ⟨us⟩ ++ c.args.map a.eval }) w := by
              show (o.semAt none a.eval).run P w = _
              simp only [Oper.semAt_none, execOp, ho, resolve, hg, hgg, Deferred.ofValue, Sem.run_bind, Sem.run_pure, Result.andThen_ok]
            rw [hrun]
            exact hK _ fun l ds' hd => .call f (by rw [map_eq]; simpa using (h1.append har).append h2) hd
        · cases e
      · cases e
    · cases e
  · cases e
theorem stepE_ok {call : CallE} (hcall : CallOK P σ call) {nt : Nat} {opa : Array Oper} {ops : List Oper} (hops : opa.toList = ops) {ro r : Option Nat} {o : Oper} {st st' : St} (e : stepE P call ro nt ops o st = some st') {a : Act} (h : SR M σ nt st a w) (hr : RR M ro r)
    {K : Act → World → Prop} {Q : Exit → Act → World → Prop} (hK : ∀ M' a' w', SR M' σ nt st' a' w' → Stp M st.H.get w M' st'.H.get w' → K a' w') :
    if Region.wanted o (yielded opa a.tmps) = true then o.wpIn (FR r) 0 P a w K Q else (∀ f, o.about P w a.eval = some f → (FR r).fn f) ∧ K (a.put o.dst undef) w := by
  unfold stepE stepPut stepGo stepDefer stepRes stepNew stepUpd stepCall stepPut at e
  simp only [forceN_eq] at e
  have hput : ∀ {M'} {x v : Value} {tm'} {w'}, Le M M' → VR M' σ x v → putE nt st.tm o.dst x = some tm' → ∀ {H nx}, HR M' σ H.get w' → SR M' σ nt ⟨tm', H, nx, st.df⟩ (a.put o.dst v) w' := fun {M'} {x v} {tm'} {w'} hl hr hp {H nx} hH =>
    ⟨(h.tm.mono hl).put hr hp, hH, by cases o.dst <;> exact h.df.mono hl⟩
  split at e
  · rename_i hw
    rw [wantE_ok hops h.tm hw]
    split at e
    · rename_i tm hp
      cases e
      simp only [Bool.false_eq_true, if_false]
      exact ⟨fun f _ => FR_fn r f, hK M _ _ (hput (Le.refl _) undef_vr hp h.hp) (Stp.refl _ _ _)⟩
    · cases e
  · rename_i hw
    rw [wantE_ok hops h.tm hw]
    simp only [if_true]
    split at e
    · rename_i d hd
      split at e
      · rename_i tm hp
        cases e
        refine deferE_ok hd h.tm.opd hr fun ds hds => hK M _ _ ⟨?_, h.hp, ?_⟩ (Stp.refl _ _ _)
        · exact TR.put (a := { a with defers := ds :: a.defers }) h.tm undef_vr hp
        · cases o.dst <;> exact hds _ _ h.df
      · cases e
    split at e
    · rename_i v hv
      split at e
      · rename_i tm hp
        cases e
        exact snd_wp hcall (nx := st.nx) (evOp_nodefer hv) h.hp (evOp_ok (P := P) h.hp h.tm.opd hv)
          (fun v' u he hvr => by cases he; exact hK M _ _ (hput (Le.refl _) hvr hp h.hp) (Stp.refl _ _ _)) (fun _ _ _ _ _ he => by cases he) (fun _ _ _ _ _ _ he => by cases he) (fun _ _ he => by cases he)
      · cases e
    · rename_i b mk hv
      split at e
      · rename_i hfresh
        split at e
        · rename_i tm hp
          cases e
          refine snd_wp hcall (nx := st.nx) (evOp_nodefer hv) h.hp (evOp_ok (P := P) h.hp h.tm.opd hv) (fun _ _ he => by cases he) (fun b' mk' ob n u he hbl hbr hmk => ?_) (fun _ _ _ _ _ _ he => by cases he) (fun _ _ he => by cases he)
          cases he
          have hM := h.hp.unplaced hfresh
          have hn := h.hp.make (b := b) (n := n) (o := ob) hM (hbr _ (ins_le hM _))
          have hs := (Stp.refl M st.H.get w).alloc hM hfresh b n ob
          exact hK _ _ _ (hput hs.le (hmk _ _ (ins_same _ _ _)) hp (by rw [Tr.get_upd]; exact hn)) (by rw [Tr.get_upd]; exact hs)
        · cases e
      · cases e
    · rename_i v H nx hv
      split at e
      · rename_i tm hp
        cases e
        refine snd_wp hcall (nx := st.nx) (evOp_nodefer hv) h.hp (evOp_ok (P := P) h.hp h.tm.opd hv) (fun _ _ he => by cases he) (fun _ _ _ _ _ he => by cases he) (fun v' H' nx' u M' w' he hvr hH hs => ?_) (fun _ _ he => by cases he)
        cases he
        exact hK M' _ _ (hput hs.le hvr hp hH) hs
      · cases e
    · rename_i f args hv
      split at e
      · rename_i v H nx hc
        split at e
        · rename_i tm hp
          cases e
          refine snd_wp hcall (nx := st.nx) (evOp_nodefer hv) h.hp (evOp_ok (P := P) h.hp h.tm.opd hv) (fun _ _ he => by cases he) (fun _ _ _ _ _ he => by cases he) (fun _ _ _ _ _ _ he => by cases he) (fun t' args' he => ?_)
          cases he
          exact ⟨v, H, nx, hc, fun u M' w' hvr hH hs => hK M' _ _ (hput hs.le hvr hp hH) hs⟩
        · cases e
      · cases e
    · cases e
  · cases e
theorem stepsE_ok {call : CallE} (hcall : CallOK P σ call) {nt : Nat} {opa : Array Oper} {ops : List Oper} (hops : opa.toList = ops) {ro r : Option Nat} {Q : Exit → Act → World → Prop} : ∀ (l : List Oper) {M : Mp} {w : World} {st st' : St} {a : Act},
    stepsE P call ro nt ops l st = some st' → SR M σ nt st a w → RR M ro r → (∀ M' a' w', SR M' σ nt st' a' w' → Stp M st.H.get w M' st'.H.get w' → Q .normal a' w') → wpListIn (FR r) 0 P opa Q l a w
  | [], M, w, st, st', a, e, h, hr, hQ => by
    simp [stepsE] at e; subst e
    exact hQ M a w h (Stp.refl _ _ _)
  | o :: l, M, w, st, st', a, e, h, hr, hQ => by
    simp only [stepsE] at e
    split at e
    · rename_i st1 h1
      refine wpListIn_step fun K hK => stepE_ok hcall hops h1 h hr fun M' a' w' h' hs => hK _ _ ?_
      exact stepsE_ok hcall hops l e h' (hr.mono hs.le) fun M2 a2 w2 h2 hs2 => hQ M2 a2 w2 h2 (hs.trans hs2)
    · cases e
/-- a drawn region does what is said of it -/
def DrawOK (P : Program) (σ : Nat → Value) (draw : DrawE) : Prop :=
  ∀ nt id (ops : Array Oper) st st', draw nt ops.toList st = some st' → ∀ M a w, SR M σ nt st a w → ∀ (r : Option Nat) (Q : Exit → Act → World → Prop),
    (∀ M' a' w', SR M' σ nt st' a' w' → Stp M st.H.get w M' st'.H.get w' → Q .normal a' w') → (Code.region id ops true).wpIn (FR r) 0 P Q a w
/-- an object that is no row of cells -/
theorem run_getObj {w : World} {b : Nat} {o : Obj} (h : w.heap[b]? = some o) (hc : ∀ c t f, o ≠ .cells c t f) : (getObj b).run P w = .ok o w := by
  cases o <;> first | (exact absurd rfl (hc _ _ _)) | simp [getObj, Sem.run, h]
theorem run_setObj {w : World} {b : Nat} {o o' : Obj} (h : w.heap[b]? = some o) (hc : ∀ c t f, o ≠ .cells c t f) : (setObj b o').run P w = .ok () { w with heap := w.heap.setIfInBounds b o' } := by
  cases o <;> first | (exact absurd rfl (hc _ _ _)) | simp [setObj, Sem.run, h]
theorem run_getLoop {w : World} {b : Nat} {l : Loop} (h : w.heap[b]? = some (.loop l)) : (Instr.getLoop b).run P w = .ok l w := by
  simp only [Instr.getLoop, Sem.run_bind, run_getObj h (by simp), Result.andThen_ok]
  rfl
theorem put_heap {w : World} {b : Nat} {o o' : Obj} (h : w.heap[b]? = some o) : ({ w with heap := w.heap.setIfInBounds b o' } : World).heap[b]? = some o' := by
  have := (Array.getElem?_eq_some_iff.1 h).1
  simp [this]
theorem put_other {w : World} {b : Nat} {o' : Obj} (j : Nat) (hj : j ≠ b) : ({ w with heap := w.heap.setIfInBounds b o' } : World).heap[j]? = w.heap[j]? := by
  simp [Array.getElem?_setIfInBounds_ne (Ne.symm hj)]
/-- an object is put in the place of another one -/
theorem HR.putObj {H : HP} (h : HR M σ H w) {k : Key} {b0 b : Blk} {p : Place} (hg : H k = some b0) (l0 : b0.live = true) (hp : M k = some p) (o' : Obj) (hl : b.live = true) (hb : BR M σ b p { w with heap := w.heap.setIfInBounds p.b o' }) :
    HR M σ (upd H k b) { w with heap := w.heap.setIfInBounds p.b o' } ∧ Stp M H w M (upd H k b) { w with heap := w.heap.setIfInBounds p.b o' } :=
  h.write hg l0 hp (fun j hj => put_other j hj) rfl rfl rfl (by simp) hl hb
theorem enterE_ok {ro r : Option Nat} {nt : Nat} {ps : Array Tmp} {asg body : Code} {st st1 : St} {l : Nat} (e : enterE ro nt ps asg body st = some (l, st1)) {a : Act} (h : SR M σ nt st a w) (hr : RR M ro r) (fn : FuncId) :
    ∃ M1 w1 p mark, (Instr.enterLoop fn a.tmps ps asg body r).run P w = .ok (p.b, mark) w1 ∧ M1 (key l) = some p ∧ st1.tm = st.tm ∧ SR M1 σ nt st1 { a with defers := mark ++ a.defers } w1 ∧ Stp M st.H.get w M1 st1.H.get w1 := by
  unfold enterE at e
  split at e
  · cases hr
    split at e
    · rename_i hf1
      split at e
      · rename_i hf2
        cases e
        have hM1 := h.hp.unplaced hf1
        have hH1 : HR (ins M (key st.nx) ⟨w.heap.size, 0, 0⟩) σ (upd st.H.get (key st.nx) (.marks false)) (w.alloc (.deferred (some []))) := h.hp.make hM1 (heap_new _ _)
        have hS1 := (Stp.refl M st.H.get w).alloc hM1 hf1 (.marks false) 0 (.deferred (some []))
        rw [Tr.get_upd] at hf2
        have hM2 := hH1.unplaced hf2
        have hle2 := ins_le hM2 ⟨(w.alloc (.deferred (some []))).heap.size, 0, 0⟩
        have hH2 := hH1.make (n := 0) (b := .loop .ready none st.tm nt ps asg body st.nx) (o := .loop { state := .ready, pending := none, fn, tmps := a.tmps, params := ps, assign := asg, body, defers := w.heap.size }) hM2
          ⟨_, heap_new _ _, rfl, rfl, (h.tm.mono hS1.le).mono hle2, rfl, rfl, rfl, _, hle2 _ _ (ins_same _ _ _), rfl⟩
        have hS2 := hS1.alloc hM2 (by
          cases hh : st.H.get (key (st.nx + 1)) with
          | none => rfl
          | some b => obtain ⟨b', hb'⟩ := hS1.grow _ _ hh; rw [hf2] at hb'; cases hb') (.loop .ready none st.tm nt ps asg body st.nx) 0 (.loop { state := .ready, pending := none, fn, tmps := a.tmps, params := ps, assign := asg, body, defers := w.heap.size })
        refine ⟨_, (w.alloc (.deferred (some []))).alloc (.loop { state := .ready, pending := none, fn, tmps := a.tmps, params := ps, assign := asg, body, defers := w.heap.size }), ⟨(w.alloc (.deferred (some []))).heap.size, 0, 0⟩, [{ target := .collected w.heap.size, args := #[] }], ?_, ins_same _ _ _, rfl, ⟨h.tm.mono hS2.le, ?_, ?_⟩, ?_⟩
        · simp [Instr.enterLoop]
        · rw [Tr.get_upd, Tr.get_upd]; exact hH2
        · exact .mark st.nx (p := ⟨w.heap.size, 0, 0⟩) (hle2 _ _ (ins_same _ _ _)) (h.df.mono hS2.le)
        · rw [Tr.get_upd, Tr.get_upd]; exact hS2
      · cases e
    · cases e
  · rename_i lo
    cases hr with
    | some hlo =>
      rename_i po
      split at e
      · rename_i s pe tm' nt' ps' asg' body' d hg hf
        cases e
        obtain ⟨L, h1, h2, h3, h4, h5, h6, h7, q, h8, h9⟩ := h.hp.at hg rfl hlo
        have hM1 := h.hp.unplaced hf
        have hle := ins_le hM1 ⟨w.heap.size, 0, 0⟩
        have hH1 := h.hp.make (n := 0) (b := .loop .ready none st.tm nt ps asg body d) (o := .loop { state := .ready, pending := none, fn, tmps := a.tmps, params := ps, assign := asg, body, defers := q.b }) hM1
          ⟨_, heap_new _ _, rfl, rfl, h.tm.mono hle, rfl, rfl, rfl, q, hle _ _ h8, rfl⟩
        have hS1 := (Stp.refl M st.H.get w).alloc hM1 hf (.loop .ready none st.tm nt ps asg body d) 0 (.loop { state := .ready, pending := none, fn, tmps := a.tmps, params := ps, assign := asg, body, defers := q.b })
        refine ⟨_, w.alloc (.loop { state := .ready, pending := none, fn, tmps := a.tmps, params := ps, assign := asg, body, defers := q.b }), ⟨w.heap.size, 0, 0⟩, [], ?_, ins_same _ _ _, rfl, ⟨h.tm.mono hS1.le, ?_, h.df.mono hS1.le⟩, ?_⟩
        · simp [Instr.enterLoop, run_getLoop h1, h9]
        · rw [Tr.get_upd]; exact hH1
        · rw [Tr.get_upd]; exact hS1
      · cases e
theorem endE_ok {l : Nat} {H H' : Tr Blk} {ex : Ex} (e : endE l H = some (ex, H')) (h : HR M σ H.get w) {p : Place} (hp : M (key l) = some p) :
    ∃ pe w', (Instr.endLoop p.b).run P w = .ok pe w' ∧ (pe = match ex with | .normal => none | .ret => some .ret | .exit id => some (.exit id)) ∧ HR M σ H'.get w' ∧ Stp M H.get w M H'.get w' := by
  unfold endE at e
  split at e
  · rename_i s pe tm nt ps asg body d hg
    obtain ⟨L, h1, h2, h3, h4⟩ := h.at hg rfl hp
    have key : s ≠ .busy → ∃ w', (Instr.endLoop p.b).run P w = .ok pe w' ∧ HR M σ (H.set (key l) (.loop .exhausted pe tm nt ps asg body d)).get w' ∧ Stp M H.get w M (H.set (key l) (.loop .exhausted pe tm nt ps asg body d)).get w' := by
      intro hs
      have hrun : (Instr.endLoop p.b).run P w = .ok L.pending { w with heap := w.heap.setIfInBounds p.b (.loop { L with state := .exhausted }) } := by
        have hb : L.state ≠ LoopState.busy := by rw [h2]; exact hs
        simp [Instr.endLoop, run_getLoop h1, hb, run_setObj (P := P) (o' := .loop { L with state := .exhausted }) h1 (by simp)]
      obtain ⟨a1, a2⟩ := h.putObj (b := .loop .exhausted pe tm nt ps asg body d) hg rfl hp (.loop { L with state := .exhausted }) rfl ⟨_, put_heap h1, rfl, h3, h4⟩
      rw [Tr.get_upd]
      exact ⟨_, hrun.trans (by rw [h3]), a1, a2⟩
    split at e
    · cases e
    · rename_i hs
      obtain ⟨w', k1, k2, k3⟩ := key (fun he => hs he)
      split at e <;> first | (cases e; done) | (cases e; exact ⟨_, w', k1, rfl, k2, k3⟩)
  · cases e
theorem execE_ok {call : CallE} (hcall : CallOK P σ call) {draw : DrawE} (hdraw : DrawOK P σ draw) {nt L : Nat} {ro r : Option Nat} : ∀ (c : Code) {M : Mp} {w : World} {st : St} {a : Act} {ex : Ex} {st' : St},
    execE P call draw nt L ro c st = some (ex, st') → SR M σ nt st a w → RR M ro r → ∀ Q : Exit → Act → World → Prop, (∀ M' a' w', SR M' σ nt st' a' w' → Stp M st.H.get w M' st'.H.get w' → Q ex.to a' w') → c.wpIn (FR r) 0 P Q a w := by
  intro c
  induction c with
  | skip => intro M w st a ex st' e h hr Q hQ; simp [execE] at e; obtain ⟨rfl, rfl⟩ := e; exact wpIn_skip (hQ M a w h (Stp.refl _ _ _))
  | label l => intro M w st a ex st' e h hr Q hQ; simp [execE] at e; obtain ⟨rfl, rfl⟩ := e; exact wpIn_label (hQ M a w h (Stp.refl _ _ _))
  | exit id => intro M w st a ex st' e h hr Q hQ; simp [execE] at e; obtain ⟨rfl, rfl⟩ := e; exact wpIn_exit (hQ M a w h (Stp.refl _ _ _))
  | ret => intro M w st a ex st' e h hr Q hQ; simp [execE] at e; obtain ⟨rfl, rfl⟩ := e; exact wpIn_ret (hQ M a w h (Stp.refl _ _ _))
  | region id ops d =>
    intro M w st a ex st' e h hr Q hQ
    cases d with
    | false =>
      simp only [execE] at e
      split at e
      · rename_i st1 h1; cases e
        exact wpIn_region_list (stepsE_ok hcall rfl _ h1 h hr hQ)
      · cases e
    | true =>
      simp only [execE] at e
      split at e
      · rename_i st1 h1; cases e
        exact hdraw _ _ _ _ _ h1 _ _ _ h r Q hQ
      · cases e
  | seq x y ihx ihy =>
    intro M w st a ex st' e h hr Q hQ
    simp only [execE] at e
    refine wpIn_seq ?_
    split at e
    · rename_i st1 h1
      exact ihx h1 h hr _ fun M1 a1 w1 hs1 s1 => ihy e hs1 (hr.mono s1.le) Q fun M2 a2 w2 hs2 s2 => hQ M2 a2 w2 hs2 (s1.trans s2)
    · rename_i r' hne
      · refine ihx e h hr _ fun M1 a1 w1 hs1 s1 => ?_
        cases ex with
        | normal => exact absurd e (hne _)
        | ret => exact hQ M1 a1 w1 hs1 s1
        | exit id => exact hQ M1 a1 w1 hs1 s1
  | cond c x y ihx ihy =>
    intro M w st a ex st' e h hr Q hQ
    simp only [execE] at e
    split at e
    · rename_i hc
      exact wpIn_cond_true ((h.tm.opd _ _ hc).eq_of_clean rfl) (ihx e h hr Q hQ)
    · rename_i hc
      exact wpIn_cond_false ((h.tm.opd _ _ hc).eq_of_clean rfl) (ihy e h hr Q hQ)
    · cases e
  | block id x ih =>
    intro M w st a ex st' e h hr Q hQ
    simp only [execE] at e
    refine wpIn_block ?_
    split at e
    · rename_i id' st1 h1
      refine ih h1 h hr _ fun M1 a1 w1 hs1 s1 => ?_
      split at e
      · rename_i hb
        cases e
        have := Nat.eq_of_beq_eq_true hb
        subst this
        simpa [Ex.to, Exit.inBlock] using hQ M1 a1 w1 hs1 s1
      · rename_i hb
        cases e
        have hne : ¬ id' = id := fun he => by subst he; simp at hb
        simpa [Ex.to, Exit.inBlock, hne] using hQ M1 a1 w1 hs1 s1
    · rename_i r' hne
      · refine ih e h hr _ fun M1 a1 w1 hs1 s1 => ?_
        cases ex with
        | normal => exact hQ M1 a1 w1 hs1 s1
        | ret => exact hQ M1 a1 w1 hs1 s1
        | exit id' => exact absurd e (hne _ _)
  | loop x ih =>
    intro M w st a ex st' e h hr Q hQ
    simp only [execE] at e
    refine wpIn_loop_rounds L ?_
    suffices hn : ∀ (n : Nat) {M : Mp} {w : World} {st : St} {a : Act}, loopE (execE P call draw nt L ro x) n st = some (ex, st') → SR M σ nt st a w → RR M ro r →
        (∀ M' a' w', SR M' σ nt st' a' w' → Stp M st.H.get w M' st'.H.get w' → Q ex.to a' w') → Code.roundsIn (FR r) 0 P x Q n a w from hn L e h hr hQ
    clear e h hQ hr
    intro n
    induction n with
    | zero => intro M w st a e; simp [loopE] at e
    | succ n ihn =>
      intro M w st a e h hr hQ
      simp only [loopE] at e
      rw [roundsIn_succ]
      split at e
      · rename_i st1 h1
        exact ih h1 h hr _ fun M1 a1 w1 hs1 s1 => ihn e hs1 (hr.mono s1.le) fun M2 a2 w2 hs2 s2 => hQ M2 a2 w2 hs2 (s1.trans s2)
      · rename_i r' hne
        · refine ih e h hr _ fun M1 a1 w1 hs1 s1 => ?_
          cases ex with
          | normal => exact absurd e (hne _)
          | ret => exact hQ M1 a1 w1 hs1 s1
          | exit id => exact hQ M1 a1 w1 hs1 s1
  | rangeFunc g ps asg b _ _ =>
    intro M w st a ex st' e h hr Q hQ
    simp only [execE] at e
    split at e
    · rename_i l st1 f first captured hent hg
      split at e
      · rename_i hbod
        split at e
        · rename_i v H nx hcl
          split at e
          · rename_i ex1 H1 hend
            cases e
            refine wpIn_rangeFunc fun fn _ => ?_
            obtain ⟨M1, w1, p, mark, k1, k2, k3, k4, k5⟩ := enterE_ok (P := P) hent h hr fn
            have hgr := (h.tm.opd _ _ hg).mono k5.le
            generalize hgg : a.eval g = gv at hgr
            cases hgr with
            | func _ hf1 hf2 =>
              rename_i us vs
              have hargs : VRs M1 σ (first ++ [yieldV l] ++ captured) (us ++ [Value.func (.yield p.b) #[] #[]] ++ vs) := (hf1.append (.cons (.yield k2) .nil)).append hf2
              refine ⟨p.b, mark, w1, { target := .fn (.func f) ⟨vs⟩, args := ⟨us⟩ ++ #[Value.func (.yield p.b) #[] #[]] }, w1, f, (us ++ [Value.func (.yield p.b) #[] #[]] ++ vs).toArray, w1, k1, ?_, fun f' _ => FR_fn r f', ?_, FR_depth, ?_⟩
              · have hmap : (rangeCall g p.b).args.map a.eval = #[Value.func (.yield p.b) #[] #[]] := by simp [rangeCall, Act.eval]
                unfold resolve
                simp only [hmap, hgg, Deferred.ofValue]
                rfl
              · simp only [invoke]
                rw [callFunc_run hbod]
                congr 2
                apply Array.ext'
                simp
              · refine (calls_FR (hcall.fn _ _ _ _ _ _ _ hcl M1 w1 _ k4.hp hargs)).mono ?_
                rintro en w3 ⟨u, M3, rfl, -, hH3, hs3⟩
                obtain ⟨pe, w4, e1, e2, e3, e4⟩ := endE_ok (P := P) hend hH3 (hs3.le _ _ k2)
                refine ⟨pe, w4, e1, ?_⟩
                have hSR : SR M3 σ nt ⟨st1.tm, H1, nx, st1.df⟩ { a with defers := mark ++ a.defers } w4 := ⟨k4.tm.mono hs3.le, e3, k4.df.mono hs3.le⟩
                have hS := (k5.trans hs3).trans e4
                have := hQ M3 _ w4 hSR hS
                subst e2
                cases ex with
                | normal => exact this
                | ret => exact wpIn_ret this
                | exit id => exact wpIn_exit this
          · cases e
        · cases e
      · cases e
    · cases e
  | scope b _ => intro M w st a ex st' e; simp [execE] at e
  | goto l => intro M w st a ex st' e; simp [execE] at e
  | refuse s => intro M w st a ex st' e; simp [execE] at e
end
end Go.Proofs.Ytdhdaknfmpfegaa.Ev
end
