/-
  Links (layer 14): the variables of LinksIterates while the iterator is gone over.
-/
import Derived.Test.YtjcabdnjimcdgaaLnkDa
import Derived.Test.YtjcabdnjimcdgaaLnkDb
set_option linter.unusedVariables false
set_option linter.unusedSimpArgs false
namespace Go.Proofs.Ytjcabdnjimcdgaa.Lnk
open Go Go.RowKit Kit Go.Shelf
/-- while the iterator is gone over: the list (its blocks: c, q, r), the boxes of turn and n, and marks -/
structure P3 (w W2 W : World) (c q r tb nb : Nat) (tv nv : Int) (Ds : List Nat) : Prop where
  lu : ∃ cq cr N F Ls, Lo W c q r cq cr N F Ls ∧ Ls.length = 2
  dc : ∀ k, Ob c q r k → w.heap.size + 2 ≤ k ∧ k < W2.heap.size
  kp : ∀ k, k < W2.heap.size → ¬ Ob c q r k → W.heap[k]? = W2.heap[k]?
  t : W.heap[tb]? = some (.cells #[.int .i64 tv] 3 (0, 0))
  n : W.heap[nb]? = some (.cells #[.int .i64 nv] 3 (0, 0))
  dx : W2.heap.size ≤ tb ∧ W2.heap.size ≤ nb ∧ tb ≠ nb
  ds : ∀ D ∈ Ds, W.heap[D]? = some (.deferred (some []))
  ws : w.heap.size + 2 ≤ W2.heap.size
  sz : W2.heap.size ≤ W.heap.size
  bw : Below w.heap.size w W
section
variable {w W2 W W' : World} {c q r tb nb : Nat} {tv nv : Int} {Ds : List Nat}
theorem P3.ct (h : P3 w W2 W c q r tb nb tv nv Ds) : W.cell? ⟨tb, 0, none⟩ = some (.int .i64 tv) := by simp [World.cell?, h.t]
theorem P3.cn (h : P3 w W2 W c q r tb nb tv nv Ds) : W.cell? ⟨nb, 0, none⟩ = some (.int .i64 nv) := by simp [World.cell?, h.n]
theorem P3.ft (h : P3 w W2 W c q r tb nb tv nv Ds) : W.frozen? ⟨tb, 0, none⟩ = false := by simp [World.frozen?, h.t]
theorem P3.fn (h : P3 w W2 W c q r tb nb tv nv Ds) : W.frozen? ⟨nb, 0, none⟩ = false := by simp [World.frozen?, h.n]
theorem P3.cell (h : P3 w W2 W c q r tb nb tv nv Ds) {a : Addr} (ha : a.block < W2.heap.size) (hn : ¬ Ob c q r a.block) : W.cell? a = W2.cell? a := by
  unfold World.cell?
  rw [h.kp _ ha hn]
theorem P3.below (h : P3 w W2 W c q r tb nb tv nv Ds) (hb : Below W.heap.size W W') : P3 w W2 W' c q r tb nb tv nv Ds := by
  have k : ∀ (b : Nat) (ob : Obj), W.heap[b]? = some ob → W'.heap[b]? = some ob := fun b ob e => (hb.block b (Array.getElem?_eq_some_iff.1 e).1).trans e
  obtain ⟨cq, cr, N, F, Ls, h1, h2⟩ := h.lu
  exact ⟨⟨cq, cr, N, F, Ls, h1.below hb, h2⟩, h.dc, fun k hk hn => (hb.block k (Nat.lt_of_lt_of_le hk h.sz)).trans (h.kp k hk hn), k _ _ h.t, k _ _ h.n, h.dx, fun D hD => k _ _ (h.ds D hD), h.ws, Nat.le_trans h.sz hb.size, tr h.bw hb⟩
theorem P3.own {B : Nat} {row : Option Nat} (h : P3 w W2 W c q r tb nb tv nv Ds) (hB : W2.heap.size ≤ B) (hDs : ∀ D ∈ Ds, D < B) (hg : W.grownBy W' row) (hr : ∀ r, row = some r → B ≤ r ∧ ∃ ob : Obj, W.heap[r]? = some ob ∧ ob.isCells = false) : P3 w W2 W' c q r tb nb tv nv Ds := by
  have hk : ∀ (k : Nat) (ob : Obj), W.heap[k]? = some ob → ob.isCells = true → W'.heap[k]? = W.heap[k]? := fun k ob h1 h2 => grownBy_keeps_cells hg (fun r e => (hr r e).2) h1 h2
  have hlo : ∀ k, k < W.heap.size → k < B → W'.heap[k]? = W.heap[k]? := fun k h1 h2 => hg.block k h1 fun e => by have := (hr k e.symm).1; omega
  obtain ⟨cq, cr, N, F, Ls, h1, h2⟩ := h.lu
  refine ⟨⟨cq, cr, N, F, Ls, h1.of fun k hk' => hlo k (by have := (h.dc k hk').2; have := h.sz; omega) (by have := (h.dc k hk').2; omega), h2⟩, h.dc, fun k hk' hn => ?_, (hk _ _ h.t rfl).trans h.t, (hk _ _ h.n rfl).trans h.n, h.dx, fun D hD => (hlo D (Array.getElem?_eq_some_iff.1 (h.ds D hD)).1 (hDs D hD)).trans (h.ds D hD), h.ws, Nat.le_trans h.sz hg.size, h.bw.grown hg h.bw.size fun k hk' => by have := (hr k hk').1; have := h.ws; omega⟩
  exact (hlo k (Nat.lt_of_lt_of_le hk' h.sz) (by omega)).trans (h.kp k hk' hn)
theorem P3.wk {cq cr N : Nat} {e : Ending} (h : P3 w W2 W c q r tb nb tv nv Ds) (ho : ∀ k, Ob c q r k → ∃ ob : Obj, W.heap[k]? = some ob ∧ ob.isCells = true) (hk : Wk e W W' c q r cq cr N 2) : (∃ z, e = .returned (.int .i64 z)) ∧ P3 w W2 W' c q r tb nb tv nv Ds ∧ KeepsOthers W W' := by
  obtain ⟨h1, ⟨F, Ls, h2, h3⟩, h4⟩ := hk
  have hs := h.bw.size
  have hws := h.ws
  have hd := h.dx
  have k : ∀ (b : Nat) (ob : Obj), W.heap[b]? = some ob → ¬ Ob c q r b → W'.heap[b]? = some ob := fun b ob e hn => (h4.block b (Array.getElem?_eq_some_iff.1 e).1 hn).trans e
  refine ⟨h1, ⟨⟨cq, cr, N, F, Ls, h2, h3⟩, h.dc, fun b hb hnb => (h4.block b (Nat.lt_of_lt_of_le hb h.sz) hnb).trans (h.kp b hb hnb), k _ _ h.t fun hk => by have := (h.dc _ hk).2; omega, k _ _ h.n fun hk => by have := (h.dc _ hk).2; omega, h.dx, fun D hD => k _ _ (h.ds D hD) fun hk => ?_, h.ws, Nat.le_trans h.sz h4.size, h.bw.trans (h4.below (n := w.heap.size) (fun k hk hb => by have := (h.dc k hb).1; omega) hs)⟩, ⟨h4.size, fun b ob hb hc => (h4.block b (Array.getElem?_eq_some_iff.1 hb).1 fun hk => ?_).trans hb⟩⟩
  · obtain ⟨ob, e1, e2⟩ := ho D hk
    rw [h.ds D hD] at e1
    cases e1
    cases e2
  · obtain ⟨ob', e1, e2⟩ := ho b hk
    rw [hb] at e1
    cases e1
    rw [hc] at e2
    cases e2
theorem P3.isC (h : P3 w W2 W c q r tb nb tv nv Ds) : ∀ k, Ob c q r k → ∃ ob : Obj, W.heap[k]? = some ob ∧ ob.isCells = true := fun k hk => by
  obtain ⟨cq, cr, N, F, Ls, h1, h2⟩ := h.lu
  rcases hk with rfl | rfl | rfl
  · exact ⟨_, h1.obj, rfl⟩
  · obtain ⟨cur, h, _⟩ := h1.fw; exact ⟨_, h, rfl⟩
  · obtain ⟨cur, h, _⟩ := h1.lw; exact ⟨_, h, rfl⟩
theorem P3.rem (h : Hid (P3 w W2 W c q r tb nb tv nv Ds)) (x : Nat) (hx : x < 4294967296) : Calls Try.prog 24 #[.pointer (some ⟨c, 0, none⟩), .int .u32 (x : Int)] W fun e W' => (∃ z, e = .returned (.int .i64 z)) ∧ Hid (P3 w W2 W' c q r tb nb tv nv Ds) ∧ Hid (KeepsOthers W W') := by
  obtain ⟨cq, cr, N, F, Ls, h1, h2⟩ := h.out.lu
  exact (remove_wk h1 h2 (by omega) (by omega)).mono fun e w' a => by
    obtain ⟨k1, k2, k3⟩ := h.out.wk h.out.isC a
    exact ⟨k1, Lib.hid k2, Lib.hid k3⟩
theorem P3.front (h : Hid (P3 w W2 W c q r tb nb tv nv Ds)) (x : Nat) (hx : x < 4294967296) : Calls Try.prog 25 #[.pointer (some ⟨c, 0, none⟩), .int .i64 1, .int .u32 (x : Int)] W fun e W' => (∃ z, e = .returned (.int .i64 z)) ∧ Hid (P3 w W2 W' c q r tb nb tv nv Ds) ∧ Hid (KeepsOthers W W') := by
  obtain ⟨cq, cr, N, F, Ls, h1, h2⟩ := h.out.lu
  exact (front_wk (h := 1) h1 h2 (by omega) (by omega) (by omega)).mono fun e w' a => by
    obtain ⟨k1, k2, k3⟩ := h.out.wk h.out.isC a
    exact ⟨k1, Lib.hid k2, Lib.hid k3⟩
theorem P3.setn (h : P3 w W2 W c q r tb nb tv nv Ds) (z : Int) : P3 w W2 (W.setCell ⟨nb, 0, none⟩ (.int .i64 z)) c q r tb nb tv z Ds ∧ KeepsOthers W (W.setCell ⟨nb, 0, none⟩ (.int .i64 z)) := by
  have k : ∀ b, b ≠ nb → (W.setCell ⟨nb, 0, none⟩ (.int .i64 z)).heap[b]? = W.heap[b]? := fun b hb => Below.heap_setCell W ⟨nb, 0, none⟩ _ b hb
  obtain ⟨cq, cr, N, F, Ls, h1, h2⟩ := h.lu
  have hk : Kp (fun k => k = nb) W (W.setCell ⟨nb, 0, none⟩ (.int .i64 z)) := Kp.setCell (bad := fun k => k = nb) (b := nb) (Kp.refl (fun k => k = nb) W) (.inl rfl) _
  have hd := h.dx
  have hws := h.ws
  exact ⟨⟨⟨cq, cr, N, F, Ls, h1.kp hk fun k hk' e => by have := (h.dc k hk').2; omega, h2⟩, h.dc, fun b hb hn => (k b (by omega)).trans (h.kp b hb hn), (k tb hd.2.2).trans h.t, heap_set (j := 0) h.n _, hd, fun D hD => (k D fun e => by have := h.ds D hD; rw [e, h.n] at this; cases this).trans (h.ds D hD), h.ws, Nat.le_trans h.sz hk.size, h.bw.setCell (p := ⟨nb, 0, none⟩) (by show w.heap.size ≤ nb; omega) _⟩, KeepsOthers.setCell _ _ _⟩
end
theorem heap_putObj_ne (W : World) (l : Nat) (ob : Obj) (k : Nat) (h : k ≠ l) : (W.putObj l ob).heap[k]? = W.heap[k]? := by
  simp only [World.putObj]
  exact Array.getElem?_setIfInBounds_ne (Ne.symm h)
/-- a piece of code that ends normally or by an exit, which lead to the same -/
def midX (id : Nat) (R : Act → World → Prop) : Exit → Act → World → Prop
  | .normal, a, w => R a w
  | .exit i, a, w => i = id ∧ R a w
  | _, _, _ => False
theorem codeIn_mid {F : Fence} {n : Nat} {P : Program} {c : Code} {Q : Exit → Act → World → Prop} {a : Act} {w : World} (id : Nat) (R : Nat → World → Prop)
    (first : Code.wpIn F n P c (midX id fun a' w' => ∃ D, a' = { a with defers := { target := .collected D, args := #[] } :: a.defers } ∧ R D w') a w) (same : ∀ a w, Q .normal a w → Q (.exit id) a w)
    (rest : ∀ D w', R D w' → Q .normal { a with defers := { target := .collected D, args := #[] } :: a.defers } w') : Code.wpIn F n P c Q a w :=
  Code.wpIn_mono (fun e a' w' h => by
    cases e
    case normal => obtain ⟨D, rfl, h⟩ := h; exact rest _ _ h
    case exit i => obtain ⟨rfl, D, rfl, h⟩ := h; exact same _ _ (rest _ _ h)
    all_goals exact h.elim) first
theorem P3.mark {w W2 W : World} {c q r tb nb : Nat} {tv nv : Int} {Ds : List Nat} (h : P3 w W2 W c q r tb nb tv nv Ds) {D : Nat} (hD : W.heap[D]? = some (Obj.deferred (some []))) : P3 w W2 W c q r tb nb tv nv (D :: Ds) :=
  ⟨h.lu, h.dc, h.kp, h.t, h.n, h.dx, fun D' hD' => by rcases List.mem_cons.1 hD' with rfl | h'; exact hD; exact h.ds D' h', h.ws, h.sz, h.bw⟩
theorem vals_ext {l : List Nat} {pre : List (El (ints l))} {x : El (ints l)} {u k0 : Nat} (hp : vals pre <+: ints l) (hk : pre.length = k0) (hx : x.val = (u : Int)) (hu : l[k0]? = some u) : vals (pre ++ [x]) <+: ints l := by
  obtain ⟨rest, hr⟩ := hp
  have hl : (vals pre).length = k0 := by rw [vals_len, hk]
  have h3 := Lnk.ints_at hu
  have h4 : (vals pre ++ rest)[k0]? = some (u : Int) := by rw [hr]; exact h3
  rw [List.getElem?_append_right (by omega), hl, Nat.sub_self] at h4
  cases rest with
  | nil => cases h4
  | cons a rest =>
    cases h4
    exact ⟨rest, by rw [vals_snoc, hx]; simpa using hr⟩
theorem vals_next {l : List Nat} {pre : List (El (ints l))} {x : El (ints l)} {u t k0 : Nat} (h : vals (pre ++ [x]) <+: ints l) (hk : pre.length = k0) (hx : x.val = (u : Int)) (ht : l[k0]? = some t) : u = t := by
  obtain ⟨rest, hr⟩ := h
  have hl : (vals pre).length = k0 := by rw [vals_len, hk]
  have h3 := Lnk.ints_at ht
  have h4 : (vals (pre ++ [x]) ++ rest)[k0]? = some (t : Int) := by rw [hr]; exact h3
  rw [vals_snoc, hx, List.append_assoc, List.getElem?_append_right (by omega), hl, Nat.sub_self] at h4
  simp at h4
  omega
theorem P3.turn {w W2 W : World} {c q r tb nb : Nat} {tv nv : Int} {Ds : List Nat} (h : P3 w W2 W c q r tb nb tv nv Ds) (a b : Int) : P3 w W2 ((W.alloc (.cells #[.int .i64 a] 3)).alloc (.cells #[.int .i64 b] 3)) c q r W.heap.size (W.heap.size + 1) a b Ds := by
  have ba1 := box_below W #[.int .i64 a] 3
  have ba2 := box_below (W.alloc (.cells #[.int .i64 a] 3)) #[.int .i64 b] 3
  have hb := tr ba1 ba2
  obtain ⟨cq, cr, N, F, Ls, h1, h2⟩ := h.lu
  have hsz := h.sz
  exact ⟨⟨cq, cr, N, F, Ls, h1.below hb, h2⟩, h.dc, fun k hk hn => (hb.block k (by omega)).trans (h.kp k hk hn), (ba2.block _ (by simp)).trans (MapKept.heap_alloc W _).1, by simpa using (MapKept.heap_alloc (W.alloc (.cells #[.int .i64 a] 3)) (.cells #[.int .i64 b] 3)).1, ⟨by omega, by omega, by omega⟩, fun D hD => (hb.block D (Array.getElem?_eq_some_iff.1 (h.ds D hD)).1).trans (h.ds D hD), h.ws, Nat.le_trans hsz hb.size, tr h.bw hb⟩
/-- what the iterator's row needs -/
def K2 (W2 : World) (c q r : Nat) (A B : World) : Prop := (∀ k, k < W2.heap.size → ¬ Ob c q r k → B.heap[k]? = A.heap[k]?) ∧ A.heap.size ≤ B.heap.size
theorem P3.k2 {w W2 W W' : World} {c q r tb nb tb' nb' : Nat} {tv nv tv' nv' : Int} {Ds Ds' : List Nat} (h : P3 w W2 W c q r tb nb tv nv Ds) (h' : P3 w W2 W' c q r tb' nb' tv' nv' Ds') (hk : KeepsOthers W W') : K2 W2 c q r W W' :=
  ⟨fun k h1 h2 => (h'.kp k h1 h2).trans (h.kp k h1 h2).symm, hk.1⟩
theorem regionIn_one {F : Fence} {n : Nat} {P : Program} {c : Code} {Q : Exit → Act → World → Prop} {a : Act} {w : World} (A : Act) (R : World → Prop)
    (first : Code.wpIn F n P c (midQ fun a w => a = A ∧ R w) a w) (rest : ∀ w, R w → Q .normal A w) : Code.wpIn F n P c Q a w :=
  Code.wpIn_mono (fun e a' w' h => by
    cases e
    case normal => obtain ⟨rfl, h⟩ := h; exact rest _ h
    all_goals exact h.elim) first
end Go.Proofs.Ytjcabdnjimcdgaa.Lnk
