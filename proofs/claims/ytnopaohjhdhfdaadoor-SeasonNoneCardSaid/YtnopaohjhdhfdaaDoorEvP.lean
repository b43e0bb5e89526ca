/-
  A checked evaluator, part P: an evaluation in parts: calls that are known with their heaps.
-/
import Derived.Test.YtnopaohjhdhfdaaDoorEvX
set_option linter.unusedVariables false
set_option linter.unusedSimpArgs false
namespace Go.Proofs.YtnopaohjhdhfdaaDoor.Ev
open Go Go.RowKit
/-- a call evaluates so, from a heap to a heap, under facts -/
noncomputable def stOK (T : List Fact) (G : List (Nat × List Value)) (P : Program) (L n : Nat) (f : FuncId) (args : List Value) (H : Tr Blk) (nx : Nat) (v : Value) (H' : Tr Blk) : Bool :=
  match @evalE ⟨T, G⟩ P L n (.fn f) args H nx with
  | some (x, H1, _) => both (veq x v) (hle H' H1)
  | none => false
section
variable {P : Program} {M : Mp} {σ : Nat → Value} {T T' : List Fact} {G : List (Nat × List Value)}
theorem BR.tab (hb : ∀ t, isBld t T' = isBld t T) {b : Blk} {p : Place} {w : World} (h : @BR ⟨T, G⟩ M σ b p w) : @BR ⟨T', G⟩ M σ b p w := by
  cases b with
  | cells t xs =>
    obtain ⟨c, fr, h1, h0, hs, h2⟩ := h
    exact ⟨c, fr, h1, h0, fun h => hs ((hb t).symm.trans h), h2⟩
  | map es c => exact h
  | loop st pe tm nt ps asg body df => exact h
  | marks x => exact h
  | iter m since seen last => exact h
  | dead => trivial
theorem HR.tab (hb : ∀ t, isBld t T' = isBld t T) {H : HP} {w : World} (h : @HR ⟨T, G⟩ M σ H w) : @HR ⟨T', G⟩ M σ H w :=
  @HR.mk ⟨T', G⟩ _ _ _ _ (fun k b g l => let ⟨p, h1, h2⟩ := @HR.blk ⟨T, G⟩ _ _ _ _ h k b g l; ⟨p, h1, h2.tab hb⟩) (@HR.inj ⟨T, G⟩ _ _ _ _ h) (@HR.dom ⟨T, G⟩ _ _ _ _ h) (@HR.gl ⟨T, G⟩ _ _ _ _ h)
theorem Fact.stI {L n : Nat} {f : FuncId} {args : List Value} {H H' : Tr Blk} {nx nx' : Nat} {v : Value} (h : stOK T G P L n f args H nx v H' = true) (hm : P.follows .mixedOrders = true)
    (hT : ∀ f ∈ T, @Fact.Holds ⟨T, G⟩ P σ f) (hb : ∀ t, isBld t T' = isBld t T) : @Fact.Holds ⟨T', G⟩ P σ (.st f args H nx v H' nx') := by
  intro M w vs hH hvs
  unfold stOK at h
  split at h
  · rename_i x H1 nx1 hx
    obtain ⟨h1, h2⟩ := @both_eq ⟨T, G⟩ _ _ h
    have hH := HR.tab (fun t => (hb t).symm) hH
    refine (@CallOK.fn ⟨T, G⟩ P σ _ (@evalE_ok ⟨T, G⟩ P σ (@TabOK.mk ⟨T, G⟩ P σ hT) hm L n) f args H nx x H1 nx1 hx M w vs hH hvs).mono ?_
    rintro e w' ⟨u, M', rfl, hv, hr, hs⟩
    obtain ⟨h3, h4⟩ := @HR.less ⟨T, G⟩ M' σ w' H' H1 hr h2
    rw [@veq_eq ⟨T, G⟩ _ _ h1] at hv
    exact ⟨u, M', rfl, hv, HR.tab hb h3, @Stp.trans ⟨T, G⟩ _ _ _ _ _ _ _ _ _ hs h4⟩
  · cases h
/-- a fact with heaps holds at any table that has the same blocks of their own -/
theorem Fact.stT {f : FuncId} {args : List Value} {H H' : Tr Blk} {nx nx' : Nat} {v : Value} (h : @Fact.Holds ⟨T, G⟩ P σ (.st f args H nx v H' nx')) (hb : ∀ t, isBld t T' = isBld t T) : @Fact.Holds ⟨T', G⟩ P σ (.st f args H nx v H' nx') := by
  intro M w vs hH hvs
  refine (h M w vs (HR.tab (fun t => (hb t).symm) hH) hvs).mono ?_
  rintro e w' ⟨u, M', rfl, hv, hr, hs⟩
  exact ⟨u, M', rfl, hv, HR.tab hb hr, hs⟩
end
/-! ### short names for what heaps hold -/
namespace Sh
/-- whole numbers, pointers, slices -/
abbrev u6 (n : Nat) : Value := .int .u64 (.ofNat n)
abbrev u3 (n : Nat) : Value := .int .u32 (.ofNat n)
abbrev u1 (n : Nat) : Value := .int .u8 (.ofNat n)
abbrev i6 (n : Nat) : Value := .int .i64 (.ofNat n)
abbrev p (b o : Nat) : Value := .pointer (some ⟨b, o, none⟩)
abbrev pn : Value := .pointer none
abbrev s (b o l c : Nat) : Value := .slice (some ⟨b, o, none⟩) l c
abbrev g (b o e l c : Nat) : Value := .slice (some ⟨b, o, some e⟩) l c
abbrev sn : Value := .slice none 0 0
abbrev t : Value := .bool true
abbrev f : Value := .bool false
abbrev c (t : TypeId) (xs : List Value) : Blk := .cells t xs
/-- n times the same, ahead of a list -/
def r (n : Nat) (v : Value) (l : List Value) : List Value := Nat.rec (motive := fun _ => List Value) l (fun _ l => v :: l) n
abbrev D0 : T4 Blk := .val .dead
abbrev D1 : T4 Blk := .node D0 D0 D0 D0
abbrev D2 : T4 Blk := .node D1 D1 D1 D1
abbrev D3 : T4 Blk := .node D2 D2 D2 D2
abbrev D4 : T4 Blk := .node D3 D3 D3 D3
abbrev D5 : T4 Blk := .node D4 D4 D4 D4
abbrev L : T4 Blk := .leaf
abbrev N (a b c d : T4 Blk) : T4 Blk := .node a b c d
abbrev V (b : Blk) : T4 Blk := .val b
end Sh
end Go.Proofs.YtnopaohjhdhfdaaDoor.Ev
