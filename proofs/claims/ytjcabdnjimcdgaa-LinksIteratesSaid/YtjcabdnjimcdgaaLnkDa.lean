/-
  Links (layer 14): the orders of a drawn region brought to one.
-/
import Derived.Test.YtjcabdnjimcdgaaLnkY
set_option linter.unusedVariables false
set_option linter.unusedSimpArgs false
namespace Go.Proofs.Ytjcabdnjimcdgaa.Lnk
open Go Go.RowKit Kit
/-- at the normal end only, and there R -/
def midQ (R : Act → World → Prop) : Exit → Act → World → Prop
  | .normal, a, w => R a w
  | _, _, _ => False
/-- a region whose ways all end alike, but for the place of a new variable that holds a field -/
theorem region_mid {P : Program} {c : Code} {Q : Exit → Act → World → Prop} {a : Act} {w : World} (A : Nat → Option Addr → Nat → Act) (R : Nat → Option Addr → Nat → World → Prop)
    (first : Code.wp P c (midQ fun a w => ∃ b p cp, a = A b p cp ∧ R b p cp w) a w) (rest : ∀ b p cp w, R b p cp w → Q .normal (A b p cp) w) : Code.wp P c Q a w :=
  Code.wp_mono (fun e a' w' h => by
    cases e
    case normal => obtain ⟨b, p, cp, rfl, h⟩ := h; exact rest _ _ _ _ h
    all_goals exact h.elim) first
/-- a region whose ways all end in one act -/
theorem region_one {P : Program} {c : Code} {Q : Exit → Act → World → Prop} {a : Act} {w : World} (A : Act) (R : World → Prop)
    (first : Code.wp P c (midQ fun a w => a = A ∧ R w) a w) (rest : ∀ w, R w → Q .normal A w) : Code.wp P c Q a w :=
  Code.wp_mono (fun e a' w' h => by
    cases e
    case normal => obtain ⟨rfl, h⟩ := h; exact rest _ h
    all_goals exact h.elim) first
/-- what is known of a new variable that holds a field -/
structure Nf (w : World) (p0 : Option Addr) (Ls0 : List (List Nat)) (v : World) (N H : Nat) (Ls : List (List Nat)) (b : Nat) (p : Option Addr) (cp : Nat) : Prop where
  bx : v.heap[b]? = some (.cells #[.int .i64 (N : Int), .slice p H cp] 24 (0, 0))
  rf : Rf2 v p Ls
  le : w.heap.size ≤ b
  bl : Below w.heap.size w v
  av : ∀ x, x < w.heap.size → Av w p0 Ls0 x → Av v p Ls x
theorem Nf.after {w u : World} {p0 : Option Addr} {Ls0 : List (List Nat)} {N H : Nat} {Ls : List (List Nat)} {p : Option Addr} {cp : Nat} (hb : Below w.heap.size w u) (rf : Rf2 u p Ls) (av : ∀ x, x < w.heap.size → Av w p0 Ls0 x → Av u p Ls x) : Nf w p0 Ls0 (u.alloc (.cells #[.int .i64 (N : Int), .slice p H cp] 24)) N H Ls u.heap.size p cp :=
  ⟨(MapKept.heap_alloc u _).1, rf.below (box_below _ _ _), hb.size, tr hb (box_below _ _ _), fun x h1 h2 => (av x h1 h2).below rf (box_below _ _ _)⟩
theorem Nf.ahead {w u : World} {p0 : Option Addr} {Ls0 : List (List Nat)} {N H : Nat} {Ls : List (List Nat)} {p : Option Addr} {cp : Nat} {x y : Value} (hb : Below w.heap.size w u) (rf : Rf2 u p Ls) (hx : u.heap[w.heap.size]? = some (.cells #[x, y] 24 (0, 0))) (ha : Av u p Ls w.heap.size) (av : ∀ x, x < w.heap.size → Av w p0 Ls0 x → Av u p Ls x) : Nf w p0 Ls0 ((u.setCell ⟨w.heap.size, 0, none⟩ (.int .i64 (N : Int))).setCell ⟨w.heap.size, 1, none⟩ (.slice p H cp)) N H Ls w.heap.size p cp := by
  have hk : ∀ b, b < u.heap.size → b ≠ w.heap.size → ((u.setCell ⟨w.heap.size, 0, none⟩ (.int .i64 (N : Int))).setCell ⟨w.heap.size, 1, none⟩ (.slice p H cp)).heap[b]? = u.heap[b]? := fun b _ hne => (Below.heap_setCell _ ⟨w.heap.size, 1, none⟩ _ b hne).trans (Below.heap_setCell u ⟨w.heap.size, 0, none⟩ _ b hne)
  exact ⟨heap_set (j := 1) (heap_set (j := 0) hx (.int .i64 (N : Int))) (.slice p H cp), rf.put ha (by simp) hk, Nat.le_refl _, (hb.setCell (p := ⟨w.heap.size, 0, none⟩) (Nat.le_refl _) _).setCell (p := ⟨w.heap.size, 1, none⟩) (Nat.le_refl _) _, fun x h1 h2 => (av x h1 h2).put rf ha hk⟩
/-- the law's variable gets another field -/
theorem Si.store {W v : World} {many : Int} {bx bf c q r N cp : Nat} {F : Fd} {Ls Rs Rs' : List (List Nat)} {p p' : Option Addr} {cp' : Nat} (h : Si W v many bx bf c q r N F Ls Rs p cp) (rf' : Rf2 v p' Rs') (hl : Rs'.length = 2) (ha : ∀ b, b = bf ∨ Ob c q r b → Av v p' Rs' b) :
    Si W ((v.setCell ⟨bf, 0, none⟩ (.int .i64 (N : Int))).setCell ⟨bf, 1, none⟩ (.slice p' 2 cp')) many bx bf c q r N F Ls Rs' p' cp' := by
  have hk : ∀ b, b ≠ bf → ((v.setCell ⟨bf, 0, none⟩ (.int .i64 (N : Int))).setCell ⟨bf, 1, none⟩ (.slice p' 2 cp')).heap[b]? = v.heap[b]? := fun b hne => (Below.heap_setCell _ ⟨bf, 1, none⟩ _ b hne).trans (Below.heap_setCell v ⟨bf, 0, none⟩ _ b hne)
  have dc := h.dc
  have dx := h.dx
  have df := h.df
  have hs : v.heap.size ≤ ((v.setCell ⟨bf, 0, none⟩ (.int .i64 (N : Int))).setCell ⟨bf, 1, none⟩ (.slice p' 2 cp')).heap.size := by simp
  refine ⟨h.m2.keep hs (fun k hk' => hk k (by omega)) ((h.m2.2.2.setCell (p := ⟨bf, 0, none⟩) (by show W.heap.size ≤ bf; omega) _).setCell (p := ⟨bf, 1, none⟩) (by show W.heap.size ≤ bf; omega) _), (hk _ (by omega)).trans h.xb, heap_set (j := 1) (heap_set (j := 0) h.fb (.int .i64 (N : Int))) (.slice p' 2 cp'), h.lo.of fun k hk' => hk k (by rcases hk' with rfl | rfl | rfl <;> omega), h.len, rf'.put (ha bf (.inl rfl)) hs (fun b _ hne => hk b hne), hl, fun b hb => (ha b hb).put rf' (ha bf (.inl rfl)) (fun b _ hne => hk b hne), dc, dx, df⟩
end Go.Proofs.Ytjcabdnjimcdgaa.Lnk
