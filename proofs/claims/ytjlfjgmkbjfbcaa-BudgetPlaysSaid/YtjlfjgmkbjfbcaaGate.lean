/-
  A region that draws its order, whose last operations (gates: stores) write cells that it loads:
  the loads may be taken first all the same, since no gate can come up ahead of them.
-/
import Derived.OrdersHeld
import Derived.Deep.RegionHeld3
namespace Go.Proofs.Ytjlfjgmkbjfbcaa.Gate
open Go

section
variable {P : Program} {ops : Array Oper} {Q : Exit → Act → World → Prop} {md : Region.Mode} {S S0 : World → Prop} {gs : List Nat}

/-- no gate has come up -/
def clean (gs : List Nat) (l : Array Bool) : Bool := gs.all fun g => !(l.getD g false)
theorem clean_get {l : Array Bool} (h : clean gs l = true) (g : Nat) (hg : g ∈ gs) : l.getD g false = false := by
  have := List.all_eq_true.1 h g hg
  simpa using this
theorem clean_of {l : Array Bool} (h : ∀ g ∈ gs, l.getD g false = false) : clean gs l = true :=
  List.all_eq_true.2 fun g hg => by rw [h g hg]; rfl
theorem clean_back {l : Array Bool} {i : Nat} (h : clean gs (l.setIfInBounds i true) = true) : clean gs l = true := clean_of fun g hg => by
  have := clean_get h g hg
  by_cases hig : i = g
  · subst hig
    by_cases hlt : i < l.size
    · simp [hlt] at this
    · simp [hlt]
  · rwa [getD_set_ne false hig] at this
theorem clean_more {l : Array Bool} {i : Nat} (h : clean gs l = true) (hi : i ∉ gs) : clean gs (l.setIfInBounds i true) = true := clean_of fun g hg => by
  have hne : i ≠ g := by rintro rfl; exact hi hg
  rw [getD_set_ne false hne]
  exact clean_get h g hg
/-- whichever order is picked from here on; as long as no gate has come up S holds -/
def anyG (P : Program) (md : Region.Mode) (ops : Array Oper) (Q : Exit → Act → World → Prop) (S : World → Prop) (gs : List Nat) : Nat → Array Bool → Act → World → Prop
  | 0, l, a, w => Region.ready md ops l = [] ∧ Q .normal a w
  | n + 1, l, a, w => (Region.ready md ops l = [] → Q .normal a w) ∧
    ∀ i ∈ Region.ready md ops l, wpOp P ops Q i (fun a' w' => (clean gs (l.setIfInBounds i true) = true → S w') ∧ anyG P md ops Q S gs n (l.setIfInBounds i true) a' w') a w
theorem any_of_gate (n : Nat) : ∀ (l : Array Bool) (a : Act) (w : World), anyG P md ops Q S gs n l a w → wpAny P md ops Q n l a w := by
  induction n with
  | zero => exact fun _ _ _ h => h
  | succ n ih => exact fun l a w h => ⟨h.1, fun i hi => wpOp_mono (fun a' w' k => ih _ a' w' k.2) (h.2 i hi)⟩
/-- operation j waits for operation i -/
def waitsOn (md : Region.Mode) (ops : Array Oper) (j i : Nat) : Bool := match ops[j]? with | some o => o.after.any fun e => Region.binds md e && e.on == i | none => false
theorem waitsOn_spec {j i : Nat} {oj : Oper} (h : waitsOn md ops j i = true) (hoj : ops[j]? = some oj) : ∃ e ∈ oj.after, Region.binds md e = true ∧ e.on = i := by
  unfold waitsOn at h
  rw [hoj] at h
  simp only [Array.any_eq_true] at h
  obtain ⟨k, hk, hb⟩ := h
  simp only [Bool.and_eq_true, beq_iff_eq] at hb
  exact ⟨_, Array.getElem_mem hk, hb.1, hb.2⟩
/-- what stands in B waits for i, and every gate waits for i or for one of B -/
def waits (md : Region.Mode) (ops : Array Oper) (gs B : List Nat) (i : Nat) : Bool :=
  (B.all fun k => waitsOn md ops k i) && gs.all fun g => waitsOn md ops g i || B.any fun k => waitsOn md ops g k
theorem waits_spec {B : List Nat} {i : Nat} (h : waits md ops gs B i = true) {l : Array Bool} (hB : clean B l = true) (j : Nat) (oj : Oper) (hoj : ops[j]? = some oj) (hall : ∀ e ∈ oj.after, Region.binds md e = true → l.getD e.on false = true) (hno : ∀ e ∈ oj.after, Region.binds md e = true → e.on ≠ i) : j ∉ gs ∧ j ∉ B := by
  unfold waits at h
  rw [Bool.and_eq_true] at h
  refine ⟨fun hg => ?_, fun hk => ?_⟩
  · have := List.all_eq_true.1 h.2 j hg
    rw [Bool.or_eq_true] at this
    rcases this with h1 | h1
    · obtain ⟨e, he, hb, heq⟩ := waitsOn_spec h1 hoj
      exact hno e he hb heq
    · obtain ⟨k, hk, h2⟩ := List.any_eq_true.1 h1
      obtain ⟨e, he, hb, heq⟩ := waitsOn_spec h2 hoj
      have h3 := hall e he hb
      rw [heq, clean_get hB k hk] at h3
      cases h3
  · obtain ⟨e, he, hb, heq⟩ := waitsOn_spec (List.all_eq_true.1 h.1 j hk) hoj
    exact hno e he hb heq
/-- operation i may be taken first: it yields its value in every world that meets S0; S0 holds of every world, or every gate waits for i -/
theorem take_gate {i : Nat} {oi : Oper} {v : Value} {B : List Nat} (hi : ops[i]? = some oi) (hsel : ∀ (j : Nat) (o : Oper) cs b, ops[j]? = some o → o.op ≠ .select cs b)
    (hQ : ∀ c a w, Q (.panic c) (a.put oi.dst v) w → Q (.panic c) a w)
    (hS : ∀ w, S w → S0 w) (hig : i ∉ gs) (hw0 : (∀ w, S0 w) ∨ waits md ops gs B i = true) (n : Nat) :
    ∀ (l : Array Bool) (a : Act) (w : World),
      (∀ j oj, ops[j]? = some oj → j ≠ i → l.getD j true = false → (∀ e ∈ oj.after, Region.binds md e = true → e.on ≠ i) → oi.apart ops oj = true) →
      i ∈ Region.ready md ops l → YieldsIf P ops S0 oi v a → ((∀ w, S0 w) ∨ (clean gs l = true ∧ clean B l = true)) → (clean gs l = true → S w) →
      anyG P md ops Q S gs n (l.setIfInBounds i true) (a.put oi.dst v) w → anyG P md ops Q S gs (n + 1) l a w := by
  have none_waits : ∀ {l : Array Bool} {j : Nat}, i ∈ Region.ready md ops l → j ∈ Region.ready md ops l → ∃ oj, ops[j]? = some oj ∧ l.getD j true = false ∧ (∀ e ∈ oj.after, Region.binds md e = true → l.getD e.on false = true) ∧ ∀ e ∈ oj.after, Region.binds md e = true → e.on ≠ i := by
    intro l j hr hj
    obtain ⟨hu, oj, hoj, hall⟩ := mem_ready.1 hj
    refine ⟨oj, hoj, hu, hall, fun e he hb heq => ?_⟩
    have h0 := (mem_ready.1 hr).1
    have h1 := hall e he hb
    rw [heq] at h1
    by_cases hlt : i < l.size
    · simp [hlt] at h0 h1; simp [h0] at h1
    · simp [hlt] at h1
  have here : ∀ {l : Array Bool} {w : World}, ((∀ w, S0 w) ∨ (clean gs l = true ∧ clean B l = true)) → (clean gs l = true → S w) → S0 w := fun h k => h.elim (fun h => h _) (fun h => hS _ (k h.1))
  induction n with
  | zero =>
    intro l a w _ hr hy hl hSw H
    refine ⟨fun h => absurd (h ▸ hr) (by simp), fun j hj => ?_⟩
    by_cases hji : j = i
    · subst hji; exact hy.wpOp hi (here hl hSw) ⟨fun h => hSw (clean_back h), H⟩
    · exact absurd (H.1 ▸ ready_mono hj hji) (by simp)
  | succ n ih =>
    intro l a w hfree hr hy hl hSw H
    refine ⟨fun h => absurd (h ▸ hr) (by simp), fun j hj => ?_⟩
    by_cases hji : j = i
    · subst hji; exact hy.wpOp hi (here hl hSw) ⟨fun h => hSw (clean_back h), H⟩
    · obtain ⟨oj, hoj, hu, hall, hno⟩ := none_waits hr hj
      have step := wpOp_putIf hoj (hfree j oj hoj hji hu hno) (fun cs b => hsel i oi cs b hi) (fun cs b => hsel j oj cs b hoj) hQ hy (H.2 j (ready_mono hj hji))
      have hSj : ∀ w', (clean gs ((l.setIfInBounds i true).setIfInBounds j true) = true → S w') → clean gs (l.setIfInBounds j true) = true → S w' := fun w' k h => k (by
        rw [Array.setIfInBounds_comm _ _ (Ne.symm hji)]
        exact clean_more h hig)
      refine wpOp_mono (fun a' w' k => ⟨hSj w' k.2.1, ih (l.setIfInBounds j true) a' w' ?_ (ready_mono hr (Ne.symm hji)) k.1 ?_ (hSj w' k.2.1) ?_⟩) step
      · intro k' ok hk hki hun hno'
        refine hfree k' ok hk hki ?_ hno'
        by_cases hjk : j = k'
        · subst hjk; exact hu
        · rwa [getD_set_ne true hjk] at hun
      · rcases hw0 with h | h
        · exact .inl h
        · rcases hl with h2 | ⟨h2, h3⟩
          · exact .inl h2
          · obtain ⟨n1, n2⟩ := waits_spec h h3 j oj hoj hall hno
            exact .inr ⟨clean_more h2 n1, clean_more h3 n2⟩
      · rw [Array.setIfInBounds_comm _ _ hji]
        exact k.2.2
/-- take a load (or what else yields its value wherever S holds) first -/
theorem take_if {i : Nat} {oi : Oper} {v : Value} {n : Nat} {l : Array Bool} {a : Act} {w : World} (B : List Nat) (hi : ops[i]? = some oi)
    (hs : Region.noSelect ops = true) (hf : Region.free md ops l i = true) (hr : (Region.ready md ops l).contains i = true) (hw : waits md ops gs B i = true) (hc : clean gs l = true) (hcB : clean B l = true) (hig : gs.contains i = false)
    (hQ : ∀ c a w, Q (.panic c) (a.put oi.dst v) w → Q (.panic c) a w) (hy : YieldsIf P ops S oi v a) (hS : S w)
    (h : anyG P md ops Q S gs n (l.setIfInBounds i true) (a.put oi.dst v) w) : anyG P md ops Q S gs (n + 1) l a w :=
  take_gate hi (Region.noSelect_spec hs) hQ (fun _ k => k) (by simpa using hig) (.inr hw) n l a w (Region.free_spec hi hf) (by simpa using hr) hy (.inr ⟨hc, hcB⟩) (fun _ => hS) h
/-- take what yields its value in whatever world first -/
theorem take_any {i : Nat} {oi : Oper} {v : Value} {n : Nat} {l : Array Bool} {a : Act} {w : World} (hi : ops[i]? = some oi)
    (hs : Region.noSelect ops = true) (hf : Region.free md ops l i = true) (hr : (Region.ready md ops l).contains i = true) (hig : gs.contains i = false)
    (hQ : ∀ c a w, Q (.panic c) (a.put oi.dst v) w → Q (.panic c) a w) (hy : YieldsIf P ops (fun _ => True) oi v a) (hS : S w)
    (h : anyG P md ops Q S gs n (l.setIfInBounds i true) (a.put oi.dst v) w) : anyG P md ops Q S gs (n + 1) l a w :=
  take_gate (S0 := fun _ => True) (B := []) hi (Region.noSelect_spec hs) hQ (fun _ _ => trivial) (by simpa using hig) (.inl fun _ => trivial) n l a w (Region.free_spec hi hf) (by simpa using hr) hy (.inl fun _ => trivial) (fun _ => hS) h
/-- one of the operations that may come up, the step behind a letter -/
theorem step_gate {i : Nat} {o : Oper} {n : Nat} {l : Array Bool} {a : Act} {w : World} (ho : ops[i]? = some o)
    (h : ∀ K : Act → World → Prop, (∀ a' w', (clean gs (l.setIfInBounds i true) = true → S w') → anyG P md ops Q S gs n (l.setIfInBounds i true) a' w' → K a' w') → if Region.wanted o (yielded ops a.tmps) = true then Oper.wp P o a w K Q else K (a.put o.dst undef) w) :
    wpOp P ops Q i (fun a' w' => (clean gs (l.setIfInBounds i true) = true → S w') ∧ anyG P md ops Q S gs n (l.setIfInBounds i true) a' w') a w :=
  wpOp_step ho (fun K hK => h K (fun a' w' h1 h2 => hK a' w' ⟨h1, h2⟩))
theorem one_gate {i : Nat} {n : Nat} {l : Array Bool} {a : Act} {w : World} (hr : Region.ready md ops l = [i])
    (h : wpOp P ops Q i (fun a' w' => (clean gs (l.setIfInBounds i true) = true → S w') ∧ anyG P md ops Q S gs n (l.setIfInBounds i true) a' w') a w) : anyG P md ops Q S gs (n + 1) l a w := by
  refine ⟨fun h0 => ?_, fun k hk => ?_⟩
  · rw [hr] at h0; cases h0
  · rw [hr, List.mem_singleton] at hk
    subst hk
    exact h
theorem two_gate {i j : Nat} {n : Nat} {l : Array Bool} {a : Act} {w : World} (hr : Region.ready md ops l = [i, j])
    (h1 : wpOp P ops Q i (fun a' w' => (clean gs (l.setIfInBounds i true) = true → S w') ∧ anyG P md ops Q S gs n (l.setIfInBounds i true) a' w') a w)
    (h2 : wpOp P ops Q j (fun a' w' => (clean gs (l.setIfInBounds j true) = true → S w') ∧ anyG P md ops Q S gs n (l.setIfInBounds j true) a' w') a w) : anyG P md ops Q S gs (n + 1) l a w := by
  refine ⟨fun h0 => ?_, fun k hk => ?_⟩
  · rw [hr] at h0; cases h0
  · rw [hr] at hk
    rcases List.mem_cons.1 hk with rfl | hk
    · exact h1
    · rw [List.mem_singleton] at hk
      subst hk
      exact h2
theorem done_gate {l : Array Bool} {a : Act} {w : World} (hr : Region.ready md ops l = []) (h : Q .normal a w) : ∀ n, anyG P md ops Q S gs n l a w
  | 0 => ⟨hr, h⟩
  | _ + 1 => ⟨fun _ => h, by rw [hr]; simp⟩
theorem begin_gate {id : Nat} {a : Act} {w : World} (S : World → Prop) (gs : List Nat) (n : Nat) (hm : P.follows .mixedOrders = true) (hn : ops.size = n) (h : anyG P .any ops Q S gs n (Array.replicate n false) a w.drew) : (Code.region id ops true).wp P Q a w := by
  subst hn
  exact wp_region_any hm (any_of_gate _ _ _ _ h)
end
end Go.Proofs.Ytjlfjgmkbjfbcaa.Gate
