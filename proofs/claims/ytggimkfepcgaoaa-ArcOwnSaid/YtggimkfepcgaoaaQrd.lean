/-
  A range over an iterator that is itself a loop over a function: the iterator may lay blocks of its own and change them.
-/
import Derived.Test.YtggimkfepcgaoaaProg
import Derived.RangeFuncNested
import Derived.Sort.QuietThIn
import Derived.Sort.BigQuietIn
import Derived.StillTailTactics
import Derived.TacticsInMore
import Derived.RangeFuncCalls
set_option linter.unusedVariables false
set_option linter.unusedSimpArgs false
section
namespace Go.Proofs.Ytggimkfepcgaoaa.Nst
open Go Go.RowKit
variable {F : Fence} {n m : Nat} {P : Program}
/-- an iterator: from a world V on it serves every J that abides changes of what is no cells from V's end on; hi: the end of the heap at the first round -/
def SeqOwn {α : Type} (F : Fence) (n m : Nat) (P : Program) (g : Nat) (lb : Array Value) (encs : α → Array Value) (Kp : World → Nat → World → World → Prop) (S Sp : List α → Prop) (N : Nat) (w : World) : Prop :=
  ∀ (l : Nat) (J Jx : Nat → List α → World → Prop) (V : World), Below w.heap.size w V → (∀ hi, OwnFrom V.heap.size (J hi)) → (∀ hi, OwnFrom V.heap.size (Jx hi)) →
    (∀ hi pre x W, V.heap.size ≤ hi → J hi pre W → pre.length < N → YieldAt F m P l (encs x) W fun e W' =>
      (e = .returned (.bool true) ∧ J hi (pre ++ [x]) W' ∧ KeepsFrom V.heap.size W W' ∧ Kp V hi W W') ∨ (e = .returned (.bool false) ∧ Jx hi (pre ++ [x]) W' ∧ KeepsFrom V.heap.size W W')) →
    (∀ W, Below V.heap.size V W → J W.heap.size [] W) →
    CallsIn F n P g (#[.func (.yield l) #[] #[]] ++ lb) V fun e W' => (∃ v, e = .returned v) ∧ ((∃ hi xs, V.heap.size ≤ hi ∧ S xs ∧ J hi xs W') ∨ (∃ hi pre, V.heap.size ≤ hi ∧ Sp pre ∧ Jx hi pre W'))
theorem putObj_keeps {W : World} {B l : Nat} (o : Obj) (h : l < B) : KeepsFrom B W (W.putObj l o) :=
  KeepsFrom.of_grownBy (grownBy_putObj' W l o) (fun j e => by cases e; exact h)
/-- the loop's record -/
def recd (fn : FuncId) (tmps : Array Value) (ps : Array Tmp) (assign body : Code) (D : Nat) (st : LoopState) (pe : Option Code) : Loop :=
  { state := st, pending := pe, fn, tmps, params := ps, assign, body, defers := D }
/-- a record and its block for deferred calls lie -/
def Book (W : World) (b : Nat) (r : Loop) : Prop := W.heap[b + 1]? = some (.loop r) ∧ W.heap[b]? = some (.deferred (some []))
theorem Book.kept {W W' : World} {b : Nat} {r : Loop} (h : Book W b r) (k : KeepsFrom b W W') : Book W' b r :=
  ⟨k.same _ _ (by omega) h.1 rfl, k.same _ _ (Nat.le_refl _) h.2 rfl⟩
theorem Book.grown {W W' : World} {b B : Nat} {r : Loop} {row : Option Nat} (h : Book W b r) (hg : W.grownBy W' row) (hB : b + 2 ≤ B) (hr : ∀ j, row = some j → B ≤ j) : Book W' b r := by
  have hl := (Array.getElem?_eq_some_iff.1 h.1).1
  refine ⟨(hg.block _ hl fun e => ?_).trans h.1, (hg.block _ (by omega) fun e => ?_).trans h.2⟩
  · have := hr _ e.symm; omega
  · have := hr _ e.symm; omega
theorem Book.put {W : World} {b : Nat} {r : Loop} (h : Book W b r) (r' : Loop) : Book (W.putObj (b + 1) (.loop r')) b r' :=
  ⟨World.putObj_heap_same (Array.getElem?_eq_some_iff.1 h.1).1, (World.putObj_heap_other (by omega)).trans h.2⟩
/-- the law of a loop over such an iterator -/
theorem loop_own {α : Type} {g : Operand} {ps : Array Tmp} {assign body : Code} {Q : Exit → Act → World → Prop} {a : Act} {w : World}
    (hro : F.round = none) (h1 : 1 ≤ n) {gf : Nat} {lb : Array Value} (hg : a.eval g = .func (.func gf) #[] lb) (hFg : F.fn gf) (eg : ∀ args w, (callFunc gf args).run P w = .ok (.enter gf args) w)
    {encs : α → Array Value} {Kp : World → Nat → World → World → Prop} {S Sp : List α → Prop} {N : Nat} {w0 : World} (hseq : SeqOwn F (n - 1) m P gf lb encs Kp S Sp N w0)
    (hKt : ∀ {V : World} {hi : Nat} {A B C : World}, Kp V hi A B → Kp V hi B C → Kp V hi A C) (hKb : ∀ (V A : World) (hi : Nat) (r : Loop), V.heap.size = w.heap.size + 2 → Kp V hi A (A.putObj (w.heap.size + 1) (.loop r)))
    (hb0 : Below w0.heap.size w0 w) (hps : ∀ x, (encs x).size = ps.size)
    (I : Nat → List α → World → Prop) (Ix : Nat → Code → List α → World → Prop) (hI : ∀ hi, OwnFrom w.heap.size (I hi)) (hIx : ∀ hi c, OwnFrom w.heap.size (Ix hi c)) (h0 : ∀ W, Below w.heap.size w W → I W.heap.size [] W) (a₁ : α → Act)
    (hassign : ∀ (l : Nat) (x : α) (W : World) (K : Act → World → Prop), K (a₁ x) W →
      assign.wpIn (F.inRound l) m P (Exit.then K (fun _ _ _ => False)) { tmps := (ps.zip (encs x)).foldl (fun t (p, v) => t.setIfInBounds p v) a.tmps, defers := [] } W)
    (hbody : ∀ (l hi : Nat) (pre : List α) (x : α) (V W : World), V.heap.size = w.heap.size + 2 → Below w.heap.size w V → V.heap.size ≤ hi → I hi pre W → pre.length < N → body.wpIn (F.inRound l) m P (ownPostG w.heap.size (Kp V hi) (I hi) (Ix hi) (pre ++ [x]) W) (a₁ x) W)
    (hdone : ∀ (D hi : Nat) (xs : List α) (W : World), w.heap.size ≤ D → w.heap.size + 2 ≤ hi → S xs → I hi xs W → W.heap[D]? = some (.deferred (some [])) → Q .normal { a with defers := { target := .collected D, args := #[] } :: a.defers } W)
    (hstop : ∀ (D hi : Nat) (c : Code) (pre : List α) (W : World), w.heap.size ≤ D → w.heap.size + 2 ≤ hi → Sp pre → Ix hi c pre W → W.heap[D]? = some (.deferred (some [])) → c.wpIn F n P Q { a with defers := { target := .collected D, args := #[] } :: a.defers } W) :
    (Code.rangeFunc g ps assign body).wpIn F n P Q a w := by
  refine wpIn_rangeFunc ?_
  intro fn hfn
  rw [hro]
  obtain ⟨rec, hrec⟩ : ∃ rec, rec = recd fn a.tmps ps assign body w.heap.size := ⟨_, rfl⟩
  obtain ⟨V, hV⟩ : ∃ V, (w.alloc (.deferred (some []))).alloc (.loop (rec .ready none)) = V := ⟨_, rfl⟩
  have sV : V.heap.size = w.heap.size + 2 := by rw [← hV]; simp
  have bV : Below w.heap.size w V := by rw [← hV]; exact ((Below.refl _ w).alloc (Nat.le_refl _) _).alloc (by simp) _
  have kV : Book V w.heap.size (rec .ready none) := by
    rw [← hV]
    refine ⟨?_, (Below.heap_alloc _ _ _ (by simp)).trans (World.alloc_heap_new w _)⟩
    have := World.alloc_heap_new (w.alloc (.deferred (some []))) (.loop (rec .ready none))
    rwa [World.size_alloc] at this
  have bk : ∀ W, Below V.heap.size V W → Book W w.heap.size (rec .ready none) := fun W hb => ⟨(hb.block _ (by omega)).trans kV.1, (hb.block _ (by omega)).trans kV.2⟩
  have hps' : ∀ x st pe, (encs x).size = (rec st pe).params.size := fun x st pe => by rw [hrec]; exact hps x
  have rbusy : ∀ st pe st', { rec st pe with state := st' } = rec st' pe := fun st pe st' => by rw [hrec]; rfl
  have rend : ∀ st pe st' pe', { rec st pe with state := st', pending := pe' } = rec st' pe' := fun st pe st' pe' => by rw [hrec]; rfl
  refine ⟨w.heap.size + 1, [{ target := .collected w.heap.size, args := #[] }], V, { target := .fn (.func gf) lb, args := #[.func (.yield (w.heap.size + 1)) #[] #[]] }, V, gf,
    #[.func (.yield (w.heap.size + 1)) #[] #[]] ++ lb, V, ?_, ?_, ?_, ?_, fun _ => h1, ?_⟩
  · rw [← hV, hrec]; exact run_enterLoop_outer _ _ _ _ _
  · simp only [resolve, hg]
    simp [go_sem]
  · intro f' hf'; simp [Target.leads] at hf'; subst hf'; exact hFg
  · simp [invoke, go_sem, eg]
  · have nb : ∀ {A : World} {row : Option Nat}, (∀ r, row = some r → V.heap.size ≤ r ∧ ∃ o : Obj, A.heap[r]? = some o ∧ o.isCells = false) → (∀ r, row = some r → w.heap.size ≤ r ∧ ∃ o : Obj, A.heap[r]? = some o ∧ o.isCells = false) :=
      fun hr r e => ⟨by have := (hr r e).1; omega, (hr r e).2⟩
    refine (hseq (w.heap.size + 1) (fun hi pre W => I hi pre W ∧ Book W w.heap.size (rec .ready none)) (fun hi pre W => ∃ c, Ix hi c pre W ∧ Book W w.heap.size (rec .done (some c))) V
      (hb0.trans (bV.mono hb0.size))
      (fun hi s A B row hs hg' hr => ⟨hI hi s A B row hs.1 hg' (nb hr), hs.2.grown hg' (Nat.le_of_eq sV.symm) fun j e => (hr j e).1⟩)
      (fun hi s A B row ⟨c, hc, hk⟩ hg' hr => ⟨c, hIx hi c s A B row hc hg' (nb hr), hk.grown hg' (Nat.le_of_eq sV.symm) fun j e => (hr j e).1⟩)
      ?_ (fun W hb => ⟨h0 W (bV.trans (hb.mono bV.size)), bk W hb⟩)).mono ?_
    · rintro h pre x W hh ⟨hi, hk⟩ hlen
      refine ⟨_, _, _, _, run_yield hk.1 (hps' x _ _), ?_⟩
      have hgo : RoundIn F m P (w.heap.size + 1) fn ((ps.zip (encs x)).foldl (fun t (p, v) => t.setIfInBounds p v) a.tmps) assign body W fun e W' =>
          (e = .returned (.bool true) ∧ (I h (pre ++ [x]) W' ∧ Book W' w.heap.size (rec .ready none)) ∧ KeepsFrom V.heap.size W W' ∧ Kp V h W W') ∨ (e = .returned (.bool false) ∧ (∃ c, Ix h c (pre ++ [x]) W' ∧ Book W' w.heap.size (rec .done (some c))) ∧ KeepsFrom V.heap.size W W') := by
        refine roundIn_of_wpIn hfn (hassign _ x W _ ?_)
        refine ⟨_, run_beginRound hk.1 (by rw [hrec]; rfl), ?_⟩
        rw [rbusy]
        have k2 := hk.put (rec .busy none)
        have i2 : I h pre (W.putObj (w.heap.size + 1) (.loop (rec .busy none))) := (hI h).putObj _ hi (by omega) hk.1 rfl
        refine wpIn_mono (hbody _ h pre x V _ sV bV hh i2 hlen) ?_
        have fin : ∀ (jump : Option Code) (W3 : World), KeepsFrom w.heap.size (W.putObj (w.heap.size + 1) (.loop (rec .busy none))) W3 →
            (Instr.endRound (w.heap.size + 1) jump).run P W3 = .ok (.bool jump.isNone) (W3.putObj (w.heap.size + 1) (.loop (rec (if jump.isNone then .ready else .done) jump))) ∧
            W3.heap[w.heap.size + 1]? = some (.loop (rec .busy none)) ∧
            Book (W3.putObj (w.heap.size + 1) (.loop (rec (if jump.isNone then .ready else .done) jump))) w.heap.size (rec (if jump.isNone then .ready else .done) jump) ∧
            KeepsFrom V.heap.size W (W3.putObj (w.heap.size + 1) (.loop (rec (if jump.isNone then .ready else .done) jump))) := fun jump W3 h3 => by
          have k3 := k2.kept h3
          have hr := run_endRound (P := P) jump k3.1
          rw [rend] at hr
          refine ⟨hr, k3.1, k3.put _, ((putObj_keeps _ (by omega)).trans ⟨h3.size, fun k o hB => h3.same k o (by omega)⟩).trans (putObj_keeps _ (by omega))⟩
        intro e a3 W3 hp
        cases e with
        | normal =>
          obtain ⟨h3, hkp, hi3⟩ := hp
          obtain ⟨hr, hl3, k4, hkk⟩ := fin none W3 h3
          exact ⟨_, _, hr, .inl ⟨rfl, ⟨(hI h).putObj _ hi3 (by omega) hl3 rfl, k4⟩, hkk, hKt (hKt (hKb V _ _ _ sV) hkp) (hKb V _ _ _ sV)⟩⟩
        | ret =>
          obtain ⟨h3, hi3⟩ := hp
          obtain ⟨hr, hl3, k4, hkk⟩ := fin (some .ret) W3 h3
          exact ⟨_, _, hr, .inr ⟨rfl, ⟨.ret, (hIx h _).putObj _ hi3 (by omega) hl3 rfl, k4⟩, hkk⟩⟩
        | exit id =>
          obtain ⟨h3, hi3⟩ := hp
          obtain ⟨hr, hl3, k4, hkk⟩ := fin (some (.exit id)) W3 h3
          exact ⟨_, _, hr, .inr ⟨rfl, ⟨.exit id, (hIx h _).putObj _ hi3 (by omega) hl3 rfl, k4⟩, hkk⟩⟩
        | goto t =>
          obtain ⟨h3, hi3⟩ := hp
          obtain ⟨hr, hl3, k4, hkk⟩ := fin (some (.goto t)) W3 h3
          exact ⟨_, _, hr, .inr ⟨rfl, ⟨.goto t, (hIx h _).putObj _ hi3 (by omega) hl3 rfl, k4⟩, hkk⟩⟩
        | panic ch => exact hp.elim
        | outgrown => exact hp.elim
      rw [hrec] at hgo ⊢
      exact hgo
    · rintro e W2 ⟨⟨v, rfl⟩, (⟨h, xs, hh, hS, hi, hk⟩ | ⟨h, pre, hh, hSp, c, hi, hk⟩)⟩
      · have hr := run_endLoop (P := P) hk.1 (by rw [hrec]; simp [recd])
        have hp : (rec .ready none).pending = none := by rw [hrec]; rfl
        rw [hp] at hr
        exact ⟨none, _, hr, hdone _ h xs _ (Nat.le_refl _) (by omega) hS ((hI h).putObj _ hi (by omega) hk.1 rfl) ((World.putObj_heap_other (by omega)).trans hk.2)⟩
      · have hr := run_endLoop (P := P) hk.1 (by rw [hrec]; simp [recd])
        have hp : (rec .done (some c)).pending = some c := by rw [hrec]; rfl
        rw [hp] at hr
        exact ⟨some c, _, hr, hstop _ h c pre _ (Nat.le_refl _) (by omega) hSp ((hIx h c).putObj _ hi (by omega) hk.1 rfl) ((World.putObj_heap_other (by omega)).trans hk.2)⟩
end Go.Proofs.Ytggimkfepcgaoaa.Nst
end
section
namespace Go.Proofs.Ytggimkfepcgaoaa.Qrd
open Go
variable {F : Fence} {n : Nat} {P : Program} {ops : Array Oper} {md : Region.Mode} {C : World → Prop}
/-- no operation defers a call -/
def Calm (ops : Array Oper) : Prop := ∀ (i : Nat) (o : Oper), ops[i]? = some o → ∀ c, o.op ≠ .defer c
def calmB (ops : Array Oper) : Bool := ops.toList.all fun o => match o.op with | .defer _ => false | _ => true
theorem calm_of {ops : Array Oper} (h : calmB ops = true) : Calm ops := fun i o hi c e => by
  have h1 := List.all_eq_true.1 h o (by
    obtain ⟨hl, rfl⟩ := Array.getElem?_eq_some_iff.1 hi
    exact Array.getElem_mem_toList hl)
  rw [e] at h1
  exact absurd h1 (by simp)
theorem oper_of {o : Oper} {a : Act} {K : Act → Prop} {K' : Act → World → Prop} {Q' : Exit → Act → World → Prop} {w : World} (hd : ∀ c, o.op ≠ .defer c) (hw : C w) (h : ∀ a w', C w' → K a → K' a w')
    (ha : o.askedIn F P a C) (hh : o.quietIn F n P a C K) : o.wpIn F n P a w K' Q' := by
  obtain ⟨v, h1, h2⟩ := hh
  have h3 := h1 w hw
  unfold Oper.quietAtIn at h3
  unfold Oper.wpIn
  refine ⟨ha w hw, ?_⟩
  rw [Oper.semAt_eq _ _ _ hd]
  generalize (execOp a.eval o).run P w = r at *
  cases r with
  | halt x w' => exact h3.elim
  | ok x w' =>
    cases x with
    | value u => obtain ⟨rfl, rfl⟩ := h3; exact h _ _ hw h2
    | skip => obtain ⟨rfl, rfl⟩ := h3; exact h _ _ hw h2
    | enter f args =>
      obtain ⟨rfl, hd', hc⟩ := h3
      exact ⟨hd', hc.mono fun e w'' ⟨he, hw''⟩ => by subst he; exact h _ _ hw'' h2⟩
    | _ => exact h3.elim
theorem any_of {Q : Act → Prop} {Q' : Exit → Act → World → Prop} (hd : Calm ops) (hQ : ∀ a w, C w → Q a → Q' .normal a w) : ∀ (fuel : Nat) (listed : Array Bool) (a : Act) (w : World), C w →
    wpAnyQIn F n P md ops C Q fuel listed a → wpAnyIn F n P md ops Q' fuel listed a w
  | 0, _, _, _, hw, h => ⟨h.1, hQ _ _ hw h.2⟩
  | fuel + 1, listed, a, w, hw, h => by
    refine ⟨fun h0 => hQ _ _ hw (h.1 h0), fun i hi => ?_⟩
    have hh := h.2 i hi
    unfold qOpIn at hh
    unfold wpOpIn
    cases ho : ops[i]? with
    | none =>
      simp only [ho] at hh
      exact any_of hd hQ fuel _ _ _ hw hh
    | some o =>
      simp only [ho] at hh
      obtain ⟨ha, hh⟩ := hh
      dsimp only
      by_cases hwt : Region.wanted o (yielded ops a.tmps) = true
      · simp only [hwt, if_true] at hh ⊢
        exact oper_of (hd i o ho) hw (fun a' w' hw' => any_of hd hQ fuel _ a' w' hw') ha hh
      · simp only [hwt] at hh ⊢
        exact ⟨ha w hw, any_of hd hQ fuel _ _ _ hw hh⟩
theorem region_quiet {id : Nat} {Q : Exit → Act → World → Prop} {a : Act} {w : World} {l : List Oper} (hd : calmB l.toArray = true) (hm : P.follows .mixedOrders = true) (hB : Region.lexB .any l.toArray = true)
    (h : wpQuietIn F n P l.toArray (fun w' => ∃ n, w' = w.drewN n) (fun a' => ∀ w', (∃ n, w' = w.drewN n) → Q .normal a' w') l a) : (Code.region id l.toArray true).wpIn F n P Q a w := by
  simp only [Region.lexB, Bool.and_eq_true] at hB
  refine wpIn_region_any hm (any_of (C := fun w' => ∃ n, w' = w.drewN n) (Q := fun a' => ∀ w', (∃ n, w' = w.drewN n) → Q .normal a' w') (calm_of hd) (fun _ w' hw' h => h w' hw') _ _ _ _ ⟨1, rfl⟩ ?_)
  have := wpAnyQIn_lex (F := F) (n := n) (C := fun w' => ∃ n, w' = w.drewN n) (md := .any) hB.1 l 0 (Array.replicate l.toArray.size false) a (by simp) (by simpa using hB.2) h
  simpa using this
/-! reads, and one chain of operations behind them -/
section
variable {w : World} {Lr : Nat}
theorem still_in {o : Oper} {a : Act} {K : Act → Prop} {K' : Act → World → Prop} {Q' : Exit → Act → World → Prop} (hd : ∀ c, o.op ≠ .defer c) (h : ∀ a, K a → K' a w) (hh : o.still P a w K) : o.wpIn (Fence.wide.inRound Lr) n P a w K' Q' := by
  unfold Oper.still at hh
  unfold Oper.wpIn
  refine ⟨fun f _ => trivial, ?_⟩
  rw [Oper.semAt_eq _ _ _ hd]
  generalize (execOp a.eval o).run P w = r at *
  cases r with
  | halt x w' => exact hh.elim
  | ok x w' =>
    cases x with
    | value u => obtain ⟨rfl, h2⟩ := hh; exact h _ h2
    | skip => obtain ⟨rfl, h2⟩ := hh; exact h _ h2
    | enter f args =>
      obtain ⟨rfl, v, hc, hn⟩ := hh
      refine ⟨fun h => (by cases h), CallsIn.inRound Lr (callsIn_wide.2 (hc.mono fun e w'' ⟨he, hw⟩ => ?_))⟩
      subst he
      subst hw
      exact h _ hn
    | _ => exact hh.elim
theorem op_in {i : Nat} {a : Act} {K : Act → Prop} {K' : Act → World → Prop} {Q' : Exit → Act → World → Prop} (hd : Calm ops) (h : ∀ a, K a → K' a w) (hh : stOp P ops w i K a) : wpOpIn (Fence.wide.inRound Lr) n P ops Q' i K' a w := by
  unfold stOp at hh
  unfold wpOpIn
  cases ho : ops[i]? with
  | none => simp only [ho] at hh; exact h _ hh
  | some o =>
    simp only [ho] at hh
    dsimp only
    by_cases hwt : Region.wanted o (yielded ops a.tmps) = true
    · simp only [hwt, if_true] at hh ⊢
      exact still_in (hd i o ho) h hh
    · simp only [hwt] at hh ⊢
      exact ⟨fun f _ => trivial, h _ hh⟩
theorem head_in {k g : Nat} {L : Array Bool → Act → Prop} {Q' : Exit → Act → World → Prop} (hd : Calm ops) (hL : ∀ listed a, L listed a → wpAnyIn (Fence.wide.inRound Lr) n P md ops Q' g listed a w) :
    ∀ (f : Nat) (listed : Array Bool) (a : Act), wpAnyL P md ops w k L f listed a → wpAnyIn (Fence.wide.inRound Lr) n P md ops Q' (f + g) listed a w
  | 0, listed, a, h => by rw [Nat.zero_add]; exact hL _ _ h
  | f + 1, listed, a, h => by
    rw [show f + 1 + g = (f + g) + 1 by omega]
    exact ⟨fun h0 => absurd h0 h.1, fun i hi => op_in hd (fun a' h' => head_in hd hL f _ a' h') (h.2 i hi).2⟩
theorem seq_in {Q' : Exit → Act → World → Prop} : ∀ (l : List Oper) (k : Nat) (listed : Array Bool) (a : Act) (w : World), (∀ j, l[j]? = ops[k + j]?) →
    Region.seqB md ops l.length k listed = true → wpListIn F n P ops Q' l a w → wpAnyIn F n P md ops Q' l.length listed a w
  | [], _, _, _, _, _, hB, h => ⟨by simpa [Region.seqB] using hB, h⟩
  | o :: l, k, listed, a, w, hl, hB, h => by
    have h0 : ops[k]? = some o := by simpa using (hl 0).symm
    simp only [List.length_cons, Region.seqB, Bool.and_eq_true, decide_eq_true_eq] at hB
    refine ⟨fun h1 => (by rw [hB.1] at h1; cases h1), fun i hi => ?_⟩
    rw [hB.1] at hi
    obtain rfl : i = k := by simpa using hi
    have hw : wpOpIn F n P ops Q' i (wpListIn F n P ops Q' l) a w := by unfold wpOpIn; simp only [h0]; exact h
    exact wpOpIn_mono (fun a' w' h' => seq_in l (i + 1) _ a' w' (fun j => by have := hl (j + 1); simpa [Nat.add_assoc, Nat.add_comm 1 j] using this) hB.2 h') hw
/-- a region that draws its order: k reads, and behind them all one chain of operations -/
theorem region_tail {id : Nat} {Q : Exit → Act → World → Prop} {a : Act} {l : List Oper} (k : Nat) (hd : calmB l.toArray = true) (hm : P.follows .mixedOrders = true) (hB : Region.lexTailB .any l.toArray k = true)
    (h : wpStill P l.toArray w.drew (fun a' => wpListIn (Fence.wide.inRound Lr) n P l.toArray Q (l.drop k) a' w.drew) (l.take k) a) : (Code.region id l.toArray true).wpIn (Fence.wide.inRound Lr) n P Q a w := by
  simp only [Region.lexTailB, Bool.and_eq_true, decide_eq_true_eq] at hB
  obtain ⟨⟨⟨⟨hsel, hn⟩, hs⟩, hc⟩, hlex⟩ := hB
  have hn' : k < l.length := by simpa using hn
  have htl : (l.take k).length = k := by simp; omega
  have hdl : (l.drop k).length = l.toArray.size - k := by simp
  have inv0 : HeadInv .any l.toArray k (Array.replicate l.toArray.size false) :=
    ⟨by simp, fun j oj _ hl => (by rw [getD_replicate_false] at hl; cases hl), fun t _ ht => getD_in (by simpa using ht) (getD_replicate_false _ _)⟩
  have H := wpAnyL_lex (md := .any) (g := l.toArray.size - k) hsel hs hc hn (l.take k) 0 _ a (fun j hj => by
    have hj' : j < k := by rw [htl] at hj; exact hj
    simp [hj']) (by simpa using htl) inv0 (by rw [htl]; exact hlex) h
  refine wpIn_region_any hm ?_
  have := head_in (Lr := Lr) (n := n) (Q' := Q) (g := l.toArray.size - k) (calm_of hd) (fun listed a' hL => by
    have := seq_in (F := Fence.wide.inRound Lr) (n := n) (md := .any) (Q' := Q) (l.drop k) k listed a' w.drew (fun j => by simp [List.getElem?_drop]) (by rw [hdl]; exact hL.1) hL.2
    rwa [hdl] at this) _ _ _ H
  rw [htl, show k + (l.toArray.size - k) = l.toArray.size by omega] at this
  exact this
end
end Go.Proofs.Ytggimkfepcgaoaa.Qrd
end
