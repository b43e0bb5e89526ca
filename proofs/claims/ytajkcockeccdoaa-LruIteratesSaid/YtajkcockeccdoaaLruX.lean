/-
  Plain LRU lists (layer 15): the variables of LruIterates.
-/
import Derived.Test.YtajkcockeccdoaaLruT
import Derived.Test.YtajkcockeccdoaaLnkDb
set_option linter.unusedVariables false
set_option linter.unusedSimpArgs false
namespace Go.Proofs.Ytajkcockeccdoaa.Lru
open Go Go.RowKit Kit Go.Shelf Lnk
/-- the boxes of a number, of the result, of a list (at bl) and of a row (at bx); a list and a row -/
structure Sx (w W : World) (s : Int) (bl bx o : Nat) (l : List Nat) (bv : Value) (p : Option Addr) (m : List Nat) : Prop where
  bm : W.heap[w.heap.size]? = some (.cells #[.int .u8 s] 5 (0, 0))
  br : W.heap[w.heap.size + 1]? = some (.cells #[.bool false] 4 (0, 0))
  bl' : W.heap[bl]? = some (.cells #[.pointer (some ⟨o, 0, none⟩)] 68 (0, 0))
  bx' : W.heap[bx]? = some (.cells #[bv] 39 (0, 0))
  lu : ∃ c q r cq cr N F, Lu W o c q r cq cr N F l ∧ (∀ k, Ob4 o c q r k → w.heap.size + 2 ≤ k ∧ k ≠ bl ∧ k ≠ bx) ∧ (∀ y, p = some y → m ≠ [] → ¬ Ob4 o c q r y.block)
  ru : Ru W p (ints m)
  rp : ∀ y, p = some y → m ≠ [] → y.block ≠ bx
  dx : w.heap.size + 1 < bl ∧ bl < bx
  bw : Below w.heap.size w W
section
variable {w W W' : World} {s : Int} {bl bx o : Nat} {l : List Nat} {bv : Value} {p : Option Addr} {m : List Nat}
theorem Sx.below (h : Sx w W s bl bx o l bv p m) (hb : Below W.heap.size W W') : Sx w W' s bl bx o l bv p m := by
  have k : ∀ (b : Nat) (ob : Obj), W.heap[b]? = some ob → W'.heap[b]? = some ob := fun b ob e => (hb.block b (Array.getElem?_eq_some_iff.1 e).1).trans e
  obtain ⟨c, q, r, cq, cr, N, F, h1, h2⟩ := h.lu
  exact ⟨k _ _ h.bm, k _ _ h.br, k _ _ h.bl', k _ _ h.bx', ⟨c, q, r, cq, cr, N, F, h1.below hb, h2⟩, h.ru.below hb, h.rp, h.dx, tr h.bw hb⟩
theorem Sx.row {p' : Option Addr} {m' : List Nat} (h : Sx w W s bl bx o l bv p m) (hb : Below W.heap.size W W') (hr : Ru W' p' (ints m')) (ha : (p' = p ∧ m' = m) ∨ ∀ y, p' = some y → W.heap.size ≤ y.block) : Sx w W' s bl bx o l bv p' m' := by
  have h' := h.below hb
  obtain ⟨c, q, r, cq, cr, N, F, h1, h2, h3⟩ := h.lu
  obtain ha | ha := ha
  · obtain ⟨rfl, rfl⟩ := ha
    exact h'
  · have hbx := (Array.getElem?_eq_some_iff.1 h.bx').1
    exact ⟨h'.bm, h'.br, h'.bl', h'.bx', ⟨c, q, r, cq, cr, N, F, h1.below hb, h2, fun y hy _ hk => by have := ha y hy; have := h1.blk hk; omega⟩, hr, fun y hy _ => by have := ha y hy; omega, h.dx, h'.bw⟩
theorem Sx.opr {c q r : Nat} {l' : List Nat} (h : Sx w W s bl bx o l bv p m) (h2 : ∀ k, Ob4 o c q r k → w.heap.size + 2 ≤ k ∧ k ≠ bl ∧ k ≠ bx) (h3 : ∀ y, p = some y → m ≠ [] → ¬ Ob4 o c q r y.block) (op : Opr W W' o c q r l') : Sx w W' s bl bx o l' bv p m := by
  obtain ⟨c', q', r', cq', cr', N', F', k1, k2, k3⟩ := op.parts
  have k : ∀ (b : Nat) (ob : Obj), W.heap[b]? = some ob → ¬ Ob4 o c q r b → W'.heap[b]? = some ob := fun b ob e hn => (k3.block b (Array.getElem?_eq_some_iff.1 e).1 hn).trans e
  have hbx := (Array.getElem?_eq_some_iff.1 h.bx').1
  have hbl := (Array.getElem?_eq_some_iff.1 h.bl').1
  have hs := h.bw.size
  refine ⟨k _ _ h.bm fun hk => by have := (h2 _ hk).1; omega, k _ _ h.br fun hk => by have := (h2 _ hk).1; omega, k _ _ h.bl' fun hk => (h2 _ hk).2.1 rfl, k _ _ h.bx' fun hk => (h2 _ hk).2.2 rfl,
    ⟨c', q', r', cq', cr', N', F', k1, fun b hb => ?_, fun y hy hn hb => ?_⟩, ru_kp h.ru k3 fun y hy hn => h3 y hy (ints_ne hn), h.rp, h.dx, h.bw.trans (k3.below (n := w.heap.size) (fun k hk hb => by have := (h2 k hb).1; omega) hs)⟩
  · rcases k2 b hb with hb | hb
    · exact h2 b hb
    · have := h.dx
      have := (Array.getElem?_eq_some_iff.1 h.br).1
      exact ⟨by omega, by omega, by omega⟩
  · rcases k2 _ hb with hb | hb
    · exact h3 y hy hn hb
    · have := ru_blk h.ru y hy hn; omega
theorem Sx.set (h : Sx w W s bl bx o l bv p m) (v : Value) : Sx w (W.setCell ⟨bx, 0, none⟩ v) s bl bx o l v p m := by
  have k : ∀ b, b ≠ bx → (W.setCell ⟨bx, 0, none⟩ v).heap[b]? = W.heap[b]? := fun b hb => Below.heap_setCell W ⟨bx, 0, none⟩ v b hb
  have hd := h.dx
  obtain ⟨c, q, r, cq, cr, N, F, h1, h2, h3⟩ := h.lu
  have hk : Kp (fun k => k = bx) W (W.setCell ⟨bx, 0, none⟩ v) := Kp.setCell (bad := fun k => k = bx) (b := bx) (Kp.refl (fun k => k = bx) W) (.inl rfl) _
  exact ⟨(k _ (by omega)).trans h.bm, (k _ (by omega)).trans h.br, (k _ (by omega)).trans h.bl', heap_set (j := 0) h.bx' v, ⟨c, q, r, cq, cr, N, F, h1.kp hk fun k hk' e => (h2 k hk').2.2 e, h2, h3⟩, ru_kp h.ru hk fun y hy hn => h.rp y hy (ints_ne hn), h.rp, h.dx, h.bw.setCell (p := ⟨bx, 0, none⟩) (by show w.heap.size ≤ bx; omega) v⟩
theorem Sx.cm (h : Sx w W s bl bx o l bv p m) : W.cell? ⟨w.heap.size, 0, none⟩ = some (.int .u8 s) := by simp [World.cell?, h.bm]
theorem Sx.cl (h : Sx w W s bl bx o l bv p m) : W.cell? ⟨bl, 0, none⟩ = some (.pointer (some ⟨o, 0, none⟩)) := by simp [World.cell?, h.bl']
theorem Sx.cx (h : Sx w W s bl bx o l bv p m) : W.cell? ⟨bx, 0, none⟩ = some bv := by simp [World.cell?, h.bx']
theorem Sx.fx (h : Sx w W s bl bx o l bv p m) : W.frozen? ⟨bx, 0, none⟩ = false := by simp [World.frozen?, h.bx']
theorem Sx.cr (h : Sx w W s bl bx o l bv p m) : W.cell? ⟨w.heap.size + 1, 0, none⟩ = some (.bool false) := by simp [World.cell?, h.br]
theorem Sx.fr (h : Sx w W s bl bx o l bv p m) : W.frozen? ⟨w.heap.size + 1, 0, none⟩ = false := by simp [World.frozen?, h.br]
theorem Sx.add (h : Hid (Sx w W s bl bx o l bv p m)) (x : Nat) (hx : x < 4294967296) (z : Int) (l' : List Nat) (hz : addC l x = z) (hl : addL l x = l') : Calls Try.prog 45 #[.pointer (some ⟨o, 0, none⟩), .int .u32 (x : Int)] W fun e W' => e = .returned (.int .i64 z) ∧ Hid (Sx w W' s bl bx o l' bv p m) := by
  obtain ⟨c, q, r, cq, cr, N, F, h1, h2, h3⟩ := h.out.lu
  subst hz hl
  exact (Add_any h1 x hx).mono fun e w' ⟨a, b⟩ => ⟨a, Lib.hid (h.out.opr h2 h3 b)⟩
theorem Sx.radd (h : Hid (Sx w W s bl bx o l bv p m)) (n c x : Nat) (hm : m.length = n) (hn : n ≤ 100000) (hc : n ≤ c) (hx : x < 4294967296) (z : Int) (m' : List Nat) (k : Nat) (hz : addC m x = z) (hl : addL m x = m') (hk : m'.length = k) : Calls Try.prog 44 #[.slice p n c, .int .u32 (x : Int)] W fun e W' => ∃ p' c', e = .returned (.tuple #[.slice p' k c', .int .i64 z]) ∧ Hid (Sx w W' s bl bx o l bv p' m') ∧ k ≤ c' := by
  subst hz hl hk
  refine (radd15_any hm hn hc h.out.ru x hx).mono fun e w' ⟨⟨p', c', he, hru, hc', hp⟩, b⟩ => ⟨p', c', he, Lib.hid (h.out.row b hru ?_), hc'⟩
  rcases hp with ⟨rfl, hp⟩ | hp
  · exact .inl ⟨rfl, hp⟩
  · exact .inr hp
end
/-- while the iterator is gone over: the list (its blocks at W2: o, c, q, r), the boxes of turn and n, and marks -/
structure P2 (w W2 W : World) (o c q r tb nb : Nat) (tv nv : Int) (Ds : List Nat) : Prop where
  lu : ∃ c' q' r' cq cr N F l, Lu W o c' q' r' cq cr N F l ∧ (∀ k, Ob4 o c' q' r' k → w.heap.size + 2 ≤ k ∧ k ≠ tb ∧ k ≠ nb ∧ (k < W2.heap.size → Ob4 o c q r k))
  kp : ∀ k, k < W2.heap.size → ¬ Ob4 o c q r k → W.heap[k]? = W2.heap[k]?
  t : W.heap[tb]? = some (.cells #[.int .i64 tv] 3 (0, 0))
  n : W.heap[nb]? = some (.cells #[.int .i64 nv] 3 (0, 0))
  dx : W2.heap.size ≤ tb ∧ W2.heap.size ≤ nb ∧ tb ≠ nb
  ds : ∀ D ∈ Ds, W.heap[D]? = some (.deferred (some []))
  ws : w.heap.size + 2 ≤ W2.heap.size
  sz : W2.heap.size ≤ W.heap.size
  bw : Below w.heap.size w W
section
variable {w W2 W W' : World} {o c q r tb nb : Nat} {tv nv : Int} {Ds : List Nat}
theorem P2.ct (h : P2 w W2 W o c q r tb nb tv nv Ds) : W.cell? ⟨tb, 0, none⟩ = some (.int .i64 tv) := by simp [World.cell?, h.t]
theorem P2.cn (h : P2 w W2 W o c q r tb nb tv nv Ds) : W.cell? ⟨nb, 0, none⟩ = some (.int .i64 nv) := by simp [World.cell?, h.n]
theorem P2.ft (h : P2 w W2 W o c q r tb nb tv nv Ds) : W.frozen? ⟨tb, 0, none⟩ = false := by simp [World.frozen?, h.t]
theorem P2.fn (h : P2 w W2 W o c q r tb nb tv nv Ds) : W.frozen? ⟨nb, 0, none⟩ = false := by simp [World.frozen?, h.n]
theorem P2.cell (h : P2 w W2 W o c q r tb nb tv nv Ds) {a : Addr} (ha : a.block < W2.heap.size) (hn : ¬ Ob4 o c q r a.block) : W.cell? a = W2.cell? a := by
  unfold World.cell?
  rw [h.kp _ ha hn]
theorem P2.below (h : P2 w W2 W o c q r tb nb tv nv Ds) (hb : Below W.heap.size W W') : P2 w W2 W' o c q r tb nb tv nv Ds := by
  have k : ∀ (b : Nat) (ob : Obj), W.heap[b]? = some ob → W'.heap[b]? = some ob := fun b ob e => (hb.block b (Array.getElem?_eq_some_iff.1 e).1).trans e
  obtain ⟨c', q', r', cq, cr, N, F, l, h1, h2⟩ := h.lu
  exact ⟨⟨c', q', r', cq, cr, N, F, l, h1.below hb, h2⟩, fun k hk hn => (hb.block k (Nat.lt_of_lt_of_le hk h.sz)).trans (h.kp k hk hn), k _ _ h.t, k _ _ h.n, h.dx, fun D hD => k _ _ (h.ds D hD), h.ws, Nat.le_trans h.sz hb.size, tr h.bw hb⟩
theorem P2.own {B : Nat} {row : Option Nat} (h : P2 w W2 W o c q r tb nb tv nv Ds) (hB : W2.heap.size ≤ B) (hDs : ∀ D ∈ Ds, D < B) (hg : W.grownBy W' row) (hr : ∀ r, row = some r → B ≤ r ∧ ∃ ob : Obj, W.heap[r]? = some ob ∧ ob.isCells = false) : P2 w W2 W' o c q r tb nb tv nv Ds := by
  have hk : ∀ (k : Nat) (ob : Obj), W.heap[k]? = some ob → ob.isCells = true → W'.heap[k]? = W.heap[k]? := fun k ob h1 h2 => grownBy_keeps_cells hg (fun r e => (hr r e).2) h1 h2
  have hlo : ∀ (k : Nat) (ob : Obj), W.heap[k]? = some ob → k < B → W'.heap[k]? = W.heap[k]? := fun k ob h1 h2 => hg.block k (Array.getElem?_eq_some_iff.1 h1).1 fun e => by have := (hr k e.symm).1; omega
  obtain ⟨c', q', r', cq, cr, N, F, l, h1, h2⟩ := h.lu
  refine ⟨⟨c', q', r', cq, cr, N, F, l, h1.of fun k hk' => by obtain ⟨ob, e1, e2⟩ := h1.isC k hk'; exact hk k ob e1 e2, h2⟩, fun k hk' hn => ?_, (hk _ _ h.t rfl).trans h.t, (hk _ _ h.n rfl).trans h.n, h.dx, fun D hD => (hlo D _ (h.ds D hD) (hDs D hD)).trans (h.ds D hD), h.ws, Nat.le_trans h.sz hg.size, h.bw.grown hg h.bw.size fun k hk' => by have := (hr k hk').1; have := h.ws; omega⟩
  have hkW : k < W.heap.size := Nat.lt_of_lt_of_le hk' h.sz
  exact (hg.block k hkW fun e => by have := (hr k e.symm).1; omega).trans (h.kp k hk' hn)
theorem P2.opr {c' q' r' cq cr N : Nat} {F : Lnk.Fd} {l l' : List Nat} (h : P2 w W2 W o c q r tb nb tv nv Ds) (h1 : Lu W o c' q' r' cq cr N F l) (h2 : ∀ k, Ob4 o c' q' r' k → w.heap.size + 2 ≤ k ∧ k ≠ tb ∧ k ≠ nb ∧ (k < W2.heap.size → Ob4 o c q r k)) (op : Opr W W' o c' q' r' l') : P2 w W2 W' o c q r tb nb tv nv Ds ∧ KeepsOthers W W' := by
  obtain ⟨c1, q1, r1, cq1, cr1, N1, F1, k1, k2, k3⟩ := op.parts
  have k : ∀ (b : Nat) (ob : Obj), W.heap[b]? = some ob → ¬ Ob4 o c' q' r' b → W'.heap[b]? = some ob := fun b ob e hn => (k3.block b (Array.getElem?_eq_some_iff.1 e).1 hn).trans e
  have ht := (Array.getElem?_eq_some_iff.1 h.t).1
  have hn := (Array.getElem?_eq_some_iff.1 h.n).1
  have hs := h.bw.size
  have hws := h.ws
  have hsz := h.sz
  refine ⟨⟨⟨c1, q1, r1, cq1, cr1, N1, F1, _, k1, fun b hb => ?_⟩, fun b hb hnb => (k3.block b (Nat.lt_of_lt_of_le hb h.sz) fun hk => hnb ((h2 b hk).2.2.2 hb)).trans (h.kp b hb hnb), k _ _ h.t fun hk => (h2 _ hk).2.1 rfl, k _ _ h.n fun hk => (h2 _ hk).2.2.1 rfl, h.dx, fun D hD => k _ _ (h.ds D hD) fun hk => ?_, h.ws, Nat.le_trans h.sz k3.size, h.bw.trans (k3.below (n := w.heap.size) (fun k hk hb => by have := (h2 k hb).1; omega) hs)⟩, h1.keepO k3⟩
  · rcases k2 b hb with hb | hb
    · exact h2 b hb
    · exact ⟨by omega, by omega, by omega, fun hlt => by omega⟩
  · obtain ⟨ob, e1, e2⟩ := h1.isC D hk
    rw [h.ds D hD] at e1
    cases e1
    cases e2
theorem P2.use (h : Hid (P2 w W2 W o c q r tb nb tv nv Ds)) (x : Nat) (hx : x < 4294967296) : Calls Try.prog 47 #[.pointer (some ⟨o, 0, none⟩), .int .u32 (x : Int)] W fun e W' => (∃ z, e = .returned (.int .i64 z)) ∧ Hid (P2 w W2 W' o c q r tb nb tv nv Ds) ∧ Hid (KeepsOthers W W') := by
  obtain ⟨c', q', r', cq, cr, N, F, l, h1, h2⟩ := h.out.lu
  exact (Use_any h1 x hx).mono fun e w' ⟨a, b⟩ => ⟨⟨_, a⟩, Lib.hid (h.out.opr h1 h2 b).1, Lib.hid (h.out.opr h1 h2 b).2⟩
theorem P2.rem (h : Hid (P2 w W2 W o c q r tb nb tv nv Ds)) (x : Nat) (hx : x < 4294967296) : Calls Try.prog 48 #[.pointer (some ⟨o, 0, none⟩), .int .u32 (x : Int)] W fun e W' => (∃ z, e = .returned (.int .i64 z)) ∧ Hid (P2 w W2 W' o c q r tb nb tv nv Ds) ∧ Hid (KeepsOthers W W') := by
  obtain ⟨c', q', r', cq, cr, N, F, l, h1, h2⟩ := h.out.lu
  exact (Remove_any h1 x hx).mono fun e w' ⟨a, b⟩ => ⟨⟨_, a⟩, Lib.hid (h.out.opr h1 h2 b).1, Lib.hid (h.out.opr h1 h2 b).2⟩
theorem P2.setn (h : P2 w W2 W o c q r tb nb tv nv Ds) (z : Int) : P2 w W2 (W.setCell ⟨nb, 0, none⟩ (.int .i64 z)) o c q r tb nb tv z Ds ∧ KeepsOthers W (W.setCell ⟨nb, 0, none⟩ (.int .i64 z)) := by
  have k : ∀ b, b ≠ nb → (W.setCell ⟨nb, 0, none⟩ (.int .i64 z)).heap[b]? = W.heap[b]? := fun b hb => Below.heap_setCell W ⟨nb, 0, none⟩ _ b hb
  obtain ⟨c', q', r', cq, cr, N, F, l, h1, h2⟩ := h.lu
  have hk : Kp (fun k => k = nb) W (W.setCell ⟨nb, 0, none⟩ (.int .i64 z)) := Kp.setCell (bad := fun k => k = nb) (b := nb) (Kp.refl (fun k => k = nb) W) (.inl rfl) _
  have hd := h.dx
  have hws := h.ws
  exact ⟨⟨⟨c', q', r', cq, cr, N, F, l, h1.kp hk fun k hk' e => (h2 k hk').2.2.1 e, h2⟩, fun b hb hn => (k b (by omega)).trans (h.kp b hb hn), (k tb hd.2.2).trans h.t, heap_set (j := 0) h.n _, hd, fun D hD => (k D fun e => by have := h.ds D hD; rw [e, h.n] at this; cases this).trans (h.ds D hD), h.ws, Nat.le_trans h.sz hk.size, h.bw.setCell (p := ⟨nb, 0, none⟩) (by show w.heap.size ≤ nb; omega) _⟩, KeepsOthers.setCell _ _ _⟩
end
end Go.Proofs.Ytajkcockeccdoaa.Lru
