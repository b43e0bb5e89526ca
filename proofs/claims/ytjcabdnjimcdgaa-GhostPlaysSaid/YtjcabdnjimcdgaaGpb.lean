/-
  Texts in one: GhpK, GhpL, GhpM.
-/
import Derived.Test.YtjcabdnjimcdgaaGpa
import Derived.Test.YtjcabdnjimcdgaaGhoRu
import Derived.Test.YtjcabdnjimcdgaaRow
import Derived.Deep.CutBlock
import Derived.Deep.DeepCutAuto
set_option linter.unusedVariables false
set_option linter.unusedSimpArgs false
namespace Go.Proofs.Ytjcabdnjimcdgaa.Gho
open Go Go.RowKit Kit Go.Maps Lnk
/-- the blocks beside the list: the reference's box and row, the call's box -/
def Xg (rb bx : Nat) (p : Option Addr) : Nat → Prop := fun j => j = rb ∨ j = bx ∨ ∃ y, p = some y ∧ j = y.block
/-- the list at b with keys kg, the reference in the box rb with keys kr, the call in the box bx -/
structure Pg (w v : World) (b K : Nat) (mg : Int) (kg : List Nat) (rb : Nat) (mr : Int) (kr : List Nat) (p : Option Addr) (c n : Nat) (bx : Nat) (what k z : Int) : Prop where
  gx : Gx w v b K 10000 mg kg (Xg rb bx p)
  box : v.heap[rb]? = some (.cells #[.int .i64 mr, .slice p n c] 106 (0, 0))
  nl : kr.length = n
  nc : n ≤ c
  ru : Ru v p (ints kr)
  pb : ∀ y, p = some y → y.block < v.heap.size ∧ w.heap.size ≤ y.block ∧ y.block ≠ rb ∧ y.block ≠ bx
  act : v.heap[bx]? = some (.cells #[.int .i64 what, .int .u32 k, .int .i64 z] 113 (0, 0))
  rl : w.heap.size ≤ rb
  xl : w.heap.size ≤ bx
  ne : rb ≠ bx
/-- what a call of the reference leaves: its row -/
def Rrow (v v' : World) (p q : Option Addr) (n c : Nat) (l : List Nat) : Prop := l.length = n ∧ n ≤ c ∧ Ru v' q (ints l) ∧ (∀ y, q = some y → y.block < v'.heap.size ∧ (q = p ∨ v.heap.size ≤ y.block)) ∧ Below v.heap.size v v'
theorem Rrow.of {v v' : World} {p q : Option Addr} {n c : Nat} {l : List Nat} (h : v'.ownsRow v.heap.size 38 1 (.slice q n c) n ((ints l).map (Value.int .u32))) (hl : l.length = n) (hb : Below v.heap.size v v') : Rrow v v' p q n c l := by
  obtain ⟨p', c', hv, hr, hp⟩ := row_ruH h (by rw [ints_len]; exact hl)
  cases hv
  obtain ⟨_, _, hv, -, hc⟩ := App.own_form h
  cases hv
  refine ⟨hl, hc, hr, fun y hy => ⟨?_, .inr (hp y hy)⟩, hb⟩
  subst hy
  exact (h.lt y.block rfl).2
section
variable {w v v' : World} {b K rb c n bx : Nat} {mg mr : Int} {kg kr : List Nat} {p : Option Addr} {what k z : Int}
theorem Pg.blt (h : Pg w v b K mg kg rb mr kr p c n bx what k z) : rb < v.heap.size ∧ bx < v.heap.size := ⟨(Array.getElem?_eq_some_iff.1 h.box).1, (Array.getElem?_eq_some_iff.1 h.act).1⟩
theorem Pg.cells (h : Pg w v b K mg kg rb mr kr p c n bx what k z) : (v.cell? ⟨rb, 0, none⟩ = some (.int .i64 mr) ∧ v.cell? ⟨rb, 1, none⟩ = some (.slice p n c) ∧ (∀ j, v.frozen? ⟨rb, j, none⟩ = false)) ∧ v.cell? ⟨bx, 0, none⟩ = some (.int .i64 what) ∧ v.cell? ⟨bx, 1, none⟩ = some (.int .u32 k) ∧ v.cell? ⟨bx, 2, none⟩ = some (.int .i64 z) := by
  have h1 := h.box
  have h2 := h.act
  refine ⟨⟨?_, ?_, fun j => ?_⟩, ?_, ?_, ?_⟩ <;> simp [World.cell?, World.frozen?, h1, h2]
/-- an operation of the list -/
theorem Pg.op {K' : Nat} {mg' : Int} {kg' : List Nat} (h : Pg w v b K mg kg rb mr kr p c n bx what k z) (hr : GxR w v v' b K' 10000 mg' kg' (Xg rb bx p)) : Pg w v' b K' mg' kg' rb mr kr p c n bx what k z := by
  have hk : Kp (fun j => ¬ Xg rb bx p j) v v' := ⟨hr.1.bl.os.trans h.gx.bl.os.symm, hr.1.bl.tape.trans h.gx.bl.tape.symm, hr.1.bl.output.trans h.gx.bl.output.symm, hr.2.2, fun j _ hj => hr.2.1 j (Classical.not_not.1 hj)⟩
  refine ⟨hr.1, (hr.2.1 rb (.inl rfl)).trans h.box, h.nl, h.nc, Ru.kpH h.ru hk (fun y hy hn => hn (.inr (.inr ⟨y, hy, rfl⟩))), fun y hy => ?_, (hr.2.1 bx (.inr (.inl rfl))).trans h.act, h.rl, h.xl, h.ne⟩
  obtain ⟨h1, h2⟩ := h.pb y hy
  exact ⟨Nat.lt_of_lt_of_le h1 hr.2.2, h2⟩
theorem Pg.below (h : Pg w v b K mg kg rb mr kr p c n bx what k z) (hb : Below v.heap.size v v') : Pg w v' b K mg kg rb mr kr p c n bx what k z := by
  obtain ⟨h1, h2⟩ := h.blt
  refine ⟨h.gx.below' hb, (hb.block rb h1).trans h.box, h.nl, h.nc, h.ru.below hb, fun y hy => ?_, (hb.block bx h2).trans h.act, h.rl, h.xl, h.ne⟩
  obtain ⟨h1, h2⟩ := h.pb y hy
  exact ⟨Nat.lt_of_lt_of_le h1 hb.size, h2⟩
theorem Pg.mono {K' : Nat} (h : Pg w v b K mg kg rb mr kr p c n bx what k z) (hK : K ≤ K') : Pg w v b K' mg kg rb mr kr p c n bx what k z := ⟨h.gx.mono hK (Nat.le_refl _), h.box, h.nl, h.nc, h.ru, h.pb, h.act, h.rl, h.xl, h.ne⟩
theorem Pg.rbAt {v8 : World} (h : Pg w v b K mg kg rb mr kr p c n bx what k z) (hb : Below v.heap.size v v8) (cs : Array Value) : (v8.alloc (.cells cs 106)).cell? ⟨rb, 0, none⟩ = some (.int .i64 mr) ∧ (v8.alloc (.cells cs 106)).cell? ⟨rb, 1, none⟩ = some (.slice p n c) ∧ ∀ j, (v8.alloc (.cells cs 106)).frozen? ⟨rb, j, none⟩ = false := by
  have hA : Below v8.heap.size v8 (v8.alloc (.cells cs 106)) := by go_grown
  exact (h.below (tr hb hA)).cells.1
/-- the reference's new list is stored -/
theorem Pg.put {mr' : Int} {kr' : List Nat} {q : Option Addr} {c' n' : Nat} (h : Pg w v b K mg kg rb mr kr p c n bx what k z) (hr : Rrow v v' p q n' c' kr') :
    Pg w (((v'.alloc (.cells #[.int .i64 mr', .slice q n' c'] 106)).setCell ⟨rb, 0, none⟩ (.int .i64 mr')).setCell ⟨rb, 1, none⟩ (.slice q n' c')) b K mg kg rb mr' kr' q c' n' bx what k z := by
  obtain ⟨hl, hc, hru, hq, hb⟩ := hr
  have hbl := h.blt
  have hws := h.gx.bl.size
  have hvs := hb.size
  have hA : Below v'.heap.size v' (v'.alloc (.cells #[.int .i64 mr', .slice q n' c'] 106)) := by go_grown
  have hAs : (v'.alloc (.cells #[.int .i64 mr', .slice q n' c'] 106)).heap.size = v'.heap.size + 1 := by simp
  have hB := tr hb hA
  have hbx := (hB.block rb hbl.1).trans h.box
  have hact := (hB.block bx hbl.2).trans h.act
  have hgx := h.gx.below hB
  generalize v'.alloc (.cells #[.int .i64 mr', .slice q n' c'] 106) = u at *
  have hf := heap_set (j := 1) (heap_set (j := 0) hbx (.int .i64 mr')) (.slice q n' c')
  have hot : ∀ g, g ≠ rb → ((u.setCell ⟨rb, 0, none⟩ (.int .i64 mr')).setCell ⟨rb, 1, none⟩ (.slice q n' c')).heap[g]? = u.heap[g]? := fun g hg => by
    rw [Below.heap_setCell _ ⟨rb, 1, none⟩ _ g hg, Below.heap_setCell _ ⟨rb, 0, none⟩ _ g hg]
  have hk : Kp (fun j => j = rb) u ((u.setCell ⟨rb, 0, none⟩ (.int .i64 mr')).setCell ⟨rb, 1, none⟩ (.slice q n' c')) := by
    have hb := ((Below.refl rb u).setCell (p := ⟨rb, 0, none⟩) (Nat.le_refl _) (.int .i64 mr')).setCell (p := ⟨rb, 1, none⟩) (Nat.le_refl _) (.slice q n' c')
    exact ⟨hb.os, hb.tape, hb.output, hb.size, fun j _ hn => hot j hn⟩
  have hsz : ((u.setCell ⟨rb, 0, none⟩ (.int .i64 mr')).setCell ⟨rb, 1, none⟩ (.slice q n' c')).heap.size = u.heap.size := by simp
  generalize (u.setCell ⟨rb, 0, none⟩ (.int .i64 mr')).setCell ⟨rb, 1, none⟩ (.slice q n' c') = u2 at *
  have hqn : ∀ y, q = some y → y.block < u.heap.size ∧ w.heap.size ≤ y.block ∧ y.block ≠ rb ∧ y.block ≠ bx := fun y hy => by
    obtain ⟨h1, h2⟩ := hq y hy
    rcases h2 with h2 | h2
    · have := h.pb y (by rw [← h2]; exact hy)
      omega
    · have := h.ne
      omega
  refine ⟨(hgx.aside hk (fun j hj _ => .inl (.inl hj)) (fun j hj => .inl ?_)).only fun j hj => .inl ?_, hf, hl, hc, Ru.kpH (hru.below hA) hk (fun y hy => (hqn y hy).2.2.1), fun y hy => by have := hqn y hy; omega, (hot bx (fun e => h.ne e.symm)).trans hact, h.rl, h.xl, h.ne⟩
  · rcases hj with (rfl | rfl | ⟨y, hy, rfl⟩) | hj
    · exact h.rl
    · exact h.xl
    · exact (h.pb y hy).2.1
    · omega
  · rcases hj with rfl | rfl | ⟨y, hy, rfl⟩
    · exact .inl (.inl rfl)
    · exact .inl (.inr (.inl rfl))
    · obtain ⟨h1, h2⟩ := hq y hy
      rcases h2 with h2 | h2
      · exact .inl (.inr (.inr ⟨y, by rw [← h2]; exact hy, rfl⟩))
      · exact .inr ⟨h2, (hqn y hy).1⟩
end
theorem put_kp {v8 : World} {rb : Nat} {cs : Array Value} {a1 a2 : Value} : Kp (fun j => j = rb) v8 (((v8.alloc (.cells cs 106)).setCell ⟨rb, 0, none⟩ a1).setCell ⟨rb, 1, none⟩ a2) := by
  have hA : Below v8.heap.size v8 (v8.alloc (.cells cs 106)) := by go_grown
  refine ⟨hA.os, hA.tape, hA.output, by simp only [World.size_setCell]; exact hA.size, fun j hj hn => ?_⟩
  rw [Below.heap_setCell _ ⟨rb, 1, none⟩ _ j hn, Below.heap_setCell _ ⟨rb, 0, none⟩ _ j hn]
  exact hA.block j hj
/-- Pop, whatever there is -/
theorem Gx.pop_any {w0 v : World} {b K B : Nat} {most : Int} {keys : List Nat} {X : Nat → Prop} (h : Gx w0 v b K B most keys X) :
    Calls Try.prog 66 #[.pointer (some ⟨b, 0, none⟩)] v fun e w' => ∃ (x y : Int) (l : List Nat), e = .returned (.tuple #[.int .u32 x, .int .i64 y]) ∧ l.length ≤ keys.length ∧ GxR w0 v w' b K B most l X := by
  rcases List.eq_nil_or_concat keys with hS | ⟨T, xk, hS⟩
  · subst hS
    refine h.pop_none.mono ?_
    rintro e w' ⟨rfl, hb⟩
    exact ⟨0, 9, [], rfl, Nat.le_refl _, h.below' hb, fun k hk => hb.block k (h.xlt k hk), hb.size⟩
  · rw [List.concat_eq_append] at hS
    subst hS
    refine h.pop.mono ?_
    rintro e w' ⟨rfl, hr⟩
    exact ⟨xk, 0, T, rfl, by simp, hr⟩
/-- a list at b that goes on beside its copy at b' -/
structure Dg (w0 w7 v : World) (b Ko : Nat) (mo : Int) (ko : List Nat) (b' i lo : Nat) (most : Int) (keys : List Nat) (X : Nat → Prop) : Prop where
  old : Gx w0 v b Ko 10000 mo ko (fun k => X k ∨ (lo ≤ k ∧ k < w7.heap.size))
  nw : Gx w0 v b' i 10000 most keys (fun k => k < lo ∨ (w7.heap.size ≤ k ∧ k < v.heap.size))
  same : ∀ k, X k → v.heap[k]? = w7.heap[k]?
  le : w7.heap.size ≤ v.heap.size
  ll : lo ≤ w7.heap.size
  xl : ∀ k, X k → k < lo
theorem Dg.op {w0 w7 v v' : World} {b Ko b' i lo K' : Nat} {mo most mo' : Int} {ko keys ko' : List Nat} {X : Nat → Prop} (h : Dg w0 w7 v b Ko mo ko b' i lo most keys X) (hr : GxR w0 v v' b K' 10000 mo' ko' (fun k => X k ∨ (lo ≤ k ∧ k < w7.heap.size))) : Dg w0 w7 v' b K' mo' ko' b' i lo most keys X := by
  obtain ⟨h1, h2, h3⟩ := hr
  have hb1 := h1.bl
  have hb0 := h.old.bl
  have hs0 := hb0.size
  have hk : Kp (fun k => w0.heap.size ≤ k ∧ ¬ (X k ∨ (lo ≤ k ∧ k < w7.heap.size))) v v' := ⟨hb1.os.trans hb0.os.symm, hb1.tape.trans hb0.tape.symm, hb1.output.trans hb0.output.symm, h3, fun k hk hn => by
    by_cases hlt : k < w0.heap.size
    · exact (hb1.block k hlt).trans (hb0.block k hlt).symm
    · exact h2 k (Classical.not_not.1 fun hx => hn ⟨by omega, hx⟩)⟩
  have hle := h.le
  have hll := h.ll
  refine ⟨h1, (h.nw.aside hk (fun k hb hlt => ?_) (fun k hx => ?_)).only fun k hx => ?_, fun k hx => (h2 k (.inl hx)).trans (h.same k hx), by omega, h.ll, h.xl⟩
  · by_cases hkl : k < lo
    · exact .inl hkl
    · refine .inr ⟨?_, hlt⟩
      rcases Nat.lt_or_ge k w7.heap.size with h7 | h7
      · exact absurd (.inr ⟨by omega, h7⟩) hb.2
      · exact h7
  · by_cases hlt : k < w0.heap.size
    · exact .inr fun hb => by omega
    · exact .inl (by omega)
  · rcases hx with hx | hx
    · exact .inl (.inl hx)
    · by_cases hlt : k < v.heap.size
      · exact .inl (.inr ⟨hx.1, hlt⟩)
      · exact .inr ⟨by omega, hx.2⟩
theorem Dg.start {w0 w6 w7 : World} {b i b' : Nat} {most : Int} {keys : List Nat} {X : Nat → Prop} (h : Gx w0 w6 b i 10000 most keys X) (hb : Below w6.heap.size w6 w7) (hc : Gx w0 w7 b' i 10000 most keys (fun k => k < w6.heap.size)) : Dg w0 w7 w7 b i most keys b' i w6.heap.size most keys X :=
  ⟨h.below hb, hc.only fun k hk => (by rcases hk with hk | hk; exact hk; omega), fun _ _ => rfl, Nat.le_refl _, hb.size, h.xlt⟩
theorem Pg.copied' {w w7 v : World} {b b' b0 i rb c n bx Ko lo : Nat} {mg mr mo : Int} {kg kr ko : List Nat} {p : Option Addr} {what k z : Int} (h : Pg w w7 b0 i mg kg rb mr kr p c n bx what k z) (hd : Dg w w7 v b Ko mo ko b' i lo mg kg (Xg rb bx p)) : Pg w v b' i mg kg rb mr kr p c n bx what k z := by
  have hk : Kp (fun j => ¬ Xg rb bx p j) w7 v := ⟨hd.nw.bl.os.trans h.gx.bl.os.symm, hd.nw.bl.tape.trans h.gx.bl.tape.symm, hd.nw.bl.output.trans h.gx.bl.output.symm, hd.le, fun j _ hj => hd.same j (Classical.not_not.1 hj)⟩
  refine ⟨hd.nw.only fun j hj => .inl (hd.xl j hj), (hd.same rb (.inl rfl)).trans h.box, h.nl, h.nc, Ru.kpH h.ru hk (fun y hy hn => hn (.inr (.inr ⟨y, hy, rfl⟩))), fun y hy => ?_, (hd.same bx (.inr (.inl rfl))).trans h.act, h.rl, h.xl, h.ne⟩
  obtain ⟨h1, h2⟩ := h.pb y hy
  exact ⟨Nat.lt_of_lt_of_le h1 hd.le, h2⟩
end Go.Proofs.Ytjcabdnjimcdgaa.Gho
namespace Go.Proofs.Ytjcabdnjimcdgaa.Gho
open Go Go.RowKit Kit Go.Maps Lnk
/-- between two calls -/
structure Pn (w v : World) (b i : Nat) (most : Nat) (keys : List Nat) (rb : Nat) (p : Option Addr) (c n : Nat) : Prop where
  gx : Gx w v b i 10000 (most : Int) keys (fun j => j = rb ∨ ∃ y, p = some y ∧ j = y.block)
  box : v.heap[rb]? = some (.cells #[.int .i64 (most : Int), .slice p n c] 106 (0, 0))
  nl : keys.length = n
  nc : n ≤ c
  ru : Ru v p (ints keys)
  pb : ∀ y, p = some y → y.block < v.heap.size ∧ w.heap.size ≤ y.block ∧ y.block ≠ rb
  rl : w.heap.size ≤ rb
  nm : n ≤ most
  m4 : most ≤ 4096
  ni : n ≤ i
theorem Pn.blt {w v : World} {b i most rb c n : Nat} {keys : List Nat} {p : Option Addr} (h : Pn w v b i most keys rb p c n) : rb < v.heap.size := (Array.getElem?_eq_some_iff.1 h.box).1
theorem Pn.act {w v : World} {b i most rb c n : Nat} {keys : List Nat} {p : Option Addr} {what k z : Int} (h : Pn w v b i most keys rb p c n) : Pg w (v.alloc (.cells #[.int .i64 what, .int .u32 k, .int .i64 z] 113)) b i (most : Int) keys rb (most : Int) keys p c n v.heap.size what k z := by
  have hb : Below v.heap.size v (v.alloc (.cells #[.int .i64 what, .int .u32 k, .int .i64 z] 113)) := by go_grown
  have hs := h.gx.bl.size
  have hl := h.blt
  refine ⟨(h.gx.below hb).only fun j hj => ?_, (hb.block rb hl).trans h.box, h.nl, h.nc, h.ru.below hb, fun y hy => ?_, (MapKept.heap_alloc v _).1, h.rl, hs, by omega⟩
  · rcases hj with hj | hj | hj
    · exact .inl (.inl hj)
    · exact .inr ⟨by omega, by rw [World.size_alloc]; omega⟩
    · exact .inl (.inr hj)
  · have := h.pb y hy
    exact ⟨by rw [World.size_alloc]; omega, this.2.1, this.2.2, by omega⟩
theorem Pg.pn {w v : World} {b K rb c n bx i most : Nat} {keys : List Nat} {p : Option Addr} {what k z : Int} (h : Pg w v b K (most : Int) keys rb (most : Int) keys p c n bx what k z) (hK : K ≤ i) (nm : n ≤ most) (m4 : most ≤ 4096) (ni : n ≤ i) : Pn w v b i most keys rb p c n :=
  ⟨(h.gx.only fun j hj => hj.elim .inl fun hj => .inr (.inr hj)).mono hK (Nat.le_refl _), h.box, h.nl, h.nc, h.ru, fun y hy => by have := h.pb y hy; exact ⟨this.1, this.2.1, this.2.2.1⟩, h.rl, nm, m4, ni⟩
/-- the row of keys that Keys has made, and what is laid behind wc -/
structure Kw (wc v : World) (u : Value) (n : Nat) : Prop where
  b : Below wc.heap.size wc v
  r : ∃ p c, u = .slice p n c ∧ (0 < n → ∃ (g : Nat) (fz : Nat → Int), p = some ⟨g, 0, none⟩ ∧ wc.heap.size ≤ g ∧ Row v g n 38 fun i => .int .u32 (fz i))
theorem Kw.form {wc v : World} {u : Value} {n : Nat} (h : Kw wc v u n) : ∃ p c, u = .slice p n c := by
  obtain ⟨-, p, c, h, -⟩ := h
  exact ⟨p, c, h⟩
theorem Kw.at_ {wc v : World} {p : Option Addr} {n c j : Nat} (h : Kw wc v (.slice p n c) n) (hj : j < n) : ∃ (g : Nat) (z : Int), p = some ⟨g, 0, none⟩ ∧ v.cell? ⟨g, j, none⟩ = some (.int .u32 z) ∧ v.frozen? ⟨g, j, none⟩ = false ∧ ∀ x : Int, Kw wc (v.setCell ⟨g, j, none⟩ (.int .u32 x)) (.slice p n c) n := by
  obtain ⟨hb, p', c', hv, hr⟩ := h
  cases hv
  obtain ⟨g, fz, rfl, hg, h3⟩ := hr (by omega)
  refine ⟨g, fz j, rfl, h3.cell j hj, h3.fr j, fun x => ⟨hb.setCell (p := ⟨g, j, none⟩) hg _, _, _, rfl, fun _ => ⟨g, fun i => if i = j then x else fz i, rfl, hg, (h3.set j _).congr fun i hi => ?_⟩⟩⟩
  by_cases hij : i = j
  · simp [hij]
  · simp [hij]
set_option maxRecDepth 100000 in
set_option maxHeartbeats 16000000 in
theorem plays28 {w0 w : World} {b most : Nat} {a : Option Addr} {len cap : Nat} {f0 f1 f2 : Nat → Int} (h : Gx w0 w b 0 10000 (most : Int) [] (fun _ => False)) (hm : most ≤ 40) (hacts : Ac3 w0.heap.size w0 a len f0 f1 f2) (hlen : len ≤ 100) :
    Calls Try.prog 59 #[.pointer (some ⟨b, 0, none⟩), rg (most : Int) none 0 0, .slice a len cap] w fun e w' => e = .returned (.bool true) ∧ Below w0.heap.size w0 w' := by
  have hb0 : Below w.heap.size w (w.alloc (.cells #[.int .i64 (most : Int), .slice none 0 0] 106)) := by go_grown
  have hs0 := h.bl.size
  have P0 := Lib.hid (show Pn w0 (w.alloc (.cells #[.int .i64 (most : Int), .slice none 0 0] 106)) b 0 most [] w.heap.size none 0 0 from
    ⟨(h.below hb0).only fun j hj => .inr (by (rcases hj with rfl | ⟨y, hy, -⟩); exact ⟨Nat.le_refl _, by rw [World.size_alloc]; omega⟩; (cases hy)), (MapKept.heap_alloc w _).1, rfl, Nat.le_refl _, fun i x hx => (by cases hx), fun y hy => (by cases hy), hs0, Nat.zero_le _, by omega, Nat.zero_le _⟩)
  have HA := Lib.hid hacts
  have HI := Lib.hid (show len ≤ 100 from hlen)
  clear h hacts hlen hm hb0 hs0
  go_enter Try.func59, Try.ntmps59
  go_wp2_with fail
  generalize w.alloc (.cells #[.int .i64 (most : Int), .slice none 0 0] 106) = w1 at *
  generalize w.heap.size = rb at *
  go_loopw [0, 7] (fun gv iv v => ∃ (i b most : Nat) (keys : List Nat) (p : Option Addr) (c n : Nat), i ≤ len ∧ iv = .int .i64 (i : Int) ∧ gv = .pointer (some ⟨b, 0, none⟩) ∧ Hid (Pn w0 v b i most keys rb p c n)) (fun _ iv _ => len - (intOf iv).toNat)
  case atStart => exact ⟨0, b, most, [], none, 0, 0, Nat.zero_le _, rfl, rfl, P0⟩
  case round =>
    obtain ⟨i, b, most, keys, p, c, n, hi, rfl, rfl, H⟩ := hrel
    clear P0
    by_cases hlt : i < len
    · obtain ⟨x, rfl, hxb, y0, y1, y2, k0, k1⟩ := HA.out.below H.out.gx.bl i hlt
      have hlti : (i : Int) < (len : Int) := by omega
      generalize f1 i = k at *
      generalize f0 i = what at *
      generalize f2 i = z at *
      have hws := H.out.gx.bl.size
      have hxw : x.block < wr.heap.size := Nat.lt_of_lt_of_le hxb hws
      go_upto_block 2 with (fail)
      go_cut [0] (fun gv wx => ∃ (b' most' : Nat) (keys' : List Nat) (p' : Option Addr) (c' n' : Nat), gv = .pointer (some ⟨b', 0, none⟩) ∧ Hid (Pg w0 wx b' (i + 1) (most' : Int) keys' rb (most' : Int) keys' p' c' n' wr.heap.size what k z) ∧ Hid (n' ≤ most' ∧ most' ≤ 4096 ∧ n' ≤ i + 1))
      case first =>
        have HB := Lib.hid (H.out.act (what := what) (k := k) (z := z))
        have HD := Lib.hid (show keys.length = n ∧ n ≤ most ∧ most ≤ 4096 ∧ n ≤ i ∧ i < len from ⟨H.out.nl, H.out.nm, H.out.m4, H.out.ni, hlt⟩)
        obtain ⟨⟨d0, d1, d2⟩, c0, c1, c2⟩ := HB.out.cells
        obtain ⟨kn, rfl⟩ : ∃ kn : Nat, k = kn := ⟨k.toNat, by omega⟩
        have hkn : kn < 4294967296 := by omega
        have HKN := Lib.hid hkn
        clear y0 y1 y2 hxw hws H k0 k1 hkn
        generalize wr.alloc (.cells #[.int .i64 what, .int .u32 (kn : Int), .int .i64 z] 113) = w6 at *
        generalize wr.heap.size = bx at *
        by_cases a0 : what = 0
        · subst a0
          as_aux_lemma =>
            obtain ⟨G, hG⟩ : ∃ G, addG (most : Int) keys kn = G := ⟨_, rfl⟩
            have hadd := HB.out.gx.add (by omega) (by have := HD.out; have := HI.out; omega) (by have := HD.out; have := HI.out; omega) kn HKN.out (by have := HD.out; omega)
            have hgl := addG_len (most := (most : Int)) (l := keys) (by have := HD.out; omega) kn
            have hgr := addR_eq (most := (most : Int)) HB.out.gx.nd (by have := HD.out; omega) kn
            rw [hG] at hadd hgl hgr
            obtain ⟨G1, gx, gl⟩ := G
            simp only at hadd hgl
            have HGR := Lib.hid hgr
            have HGL := Lib.hid hgl
            have HAD := Lib.hid hadd
            have htt : (gl != gl) = false := by cases gl <;> rfl
            have hxx : ((gx : Int) != (gx : Int)) = false := by rw [bne_self_eq_false]
            clear hadd hgl hgr hG d0 d1 d2
            go_wp2_with fail
            refine HAD.out.mono ?_
            rintro e w7 ⟨rfl, hr⟩
            have H7 := Lib.hid (HB.out.op hr)
            obtain ⟨⟨d0, d1, d2⟩, e0, e1, e2⟩ := H7.out.cells
            have HRA := Lib.hid (radd_any (c := c) (most := most) HD.out.1 (by have := HD.out; have := HI.out; omega) H7.out.ru kn)
            rw [HGR.out] at HRA
            clear hr HAD HB c0 c1 c2
            go_wp2_with fail
            refine HRA.out.mono ?_
            rintro e w8 ⟨q, k8, rfl, hrow, b8⟩
            have hrr := Rrow.of (p := p) hrow rfl b8
            have HR8 := Lib.hid hrr
            have H8 := Lib.hid (H7.out.put (mr' := (most : Int)) hrr)
            obtain ⟨f0, f1, f2⟩ := H7.out.rbAt HR8.out.2.2.2.2 #[.int .i64 (most : Int), .slice q G1.length k8]
            clear hrow b8 hrr H7 d0 d1 d2 HRA e0 e1 e2
            go_wp2_with fail
            go_meet
            case rel => exact ⟨b, most, G1, q, k8, G1.length, rfl, H8, Lib.hid (by have := HGL.out; have := HD.out; omega)⟩
        by_cases a1 : what = 1
        · subst a1
          as_aux_lemma =>
            have hrm := HB.out.gx.remove kn HKN.out
            obtain ⟨t, ht⟩ : ∃ t, decide (kn ∈ keys) = t := ⟨_, rfl⟩
            have hwo := wout_erase HB.out.gx.nd kn
            have hel := List.length_erase_le (a := kn) (l := keys)
            obtain ⟨G1, hG1⟩ : ∃ G1, keys.erase kn = G1 := ⟨_, rfl⟩
            rw [ht] at hrm
            rw [hG1] at hrm hwo hel
            have htt : (t != t) = false := by cases t <;> rfl
            have HT := Lib.hid ht
            have HWO := Lib.hid hwo
            have HGL := Lib.hid hel
            have HRM := Lib.hid hrm
            clear hrm ht hwo hel hG1 d0 d1 d2 a0
            go_wp2_with fail
            refine HRM.out.mono ?_
            rintro e w7 ⟨rfl, hr⟩
            have H7 := Lib.hid (HB.out.op hr)
            obtain ⟨⟨d0, d1, d2⟩, e0, e1, e2⟩ := H7.out.cells
            have HRA := Lib.hid (rremove_any (c := c) (most : Int) HD.out.1 (by have := HD.out; have := HI.out; omega) H7.out.ru kn)
            rw [HT.out, HWO.out] at HRA
            clear hr HRM HB c0 c1 c2
            go_wp2_with fail
            refine HRA.out.mono ?_
            rintro e w8 ⟨q, k8, rfl, hrow, b8⟩
            have hrr := Rrow.of (p := p) hrow rfl b8
            have HR8 := Lib.hid hrr
            have H8 := Lib.hid (H7.out.put (mr' := (most : Int)) hrr)
            obtain ⟨f0, f1, f2⟩ := H7.out.rbAt HR8.out.2.2.2.2 #[.int .i64 (most : Int), .slice q G1.length k8]
            clear hrow b8 hrr H7 d0 d1 d2 HRA e0 e1 e2
            go_wp2_with fail
            go_meet
            case rel => exact ⟨b, most, G1, q, k8, G1.length, rfl, Lib.hid (H8.out.mono (Nat.le_succ _)), Lib.hid (by have := HGL.out; have := HD.out; omega)⟩
        by_cases a2 : what = 2
        · subst a2
          as_aux_lemma =>
            rcases List.eq_nil_or_concat keys with hS | ⟨T, xk, hS⟩
            · subst hS
              have hn0 : n = 0 := HD.out.1.symm
              subst hn0
              have HP := Lib.hid HB.out.gx.pop_none
              clear a0 a1 d0 d1 d2
              go_wp2_with fail
              refine HP.out.mono ?_
              rintro e w7 ⟨rfl, b7⟩
              have H7 := Lib.hid (HB.out.below b7)
              obtain ⟨⟨d0, d1, d2⟩, e0, e1, e2⟩ := H7.out.cells
              clear HP HB c0 c1 c2 b7
              go_wp2_with fail
              refine (rpop_none (c := c) (p := p) (most : Int)).mono ?_
              rintro e w8 ⟨rfl, b8⟩
              have hrr : Rrow w7 w8 p p 0 c [] := ⟨rfl, Nat.zero_le _, fun i x hx => (by cases hx), fun y hy => ⟨Nat.lt_of_lt_of_le (H7.out.pb y hy).1 b8.size, .inl rfl⟩, b8⟩
              have HR8 := Lib.hid hrr
              have H8 := Lib.hid (H7.out.put (mr' := (most : Int)) hrr)
              obtain ⟨f0, f1, f2⟩ := H7.out.rbAt HR8.out.2.2.2.2 #[.int .i64 (most : Int), .slice p 0 c]
              clear b8 hrr H7 d0 d1 d2 e0 e1 e2
              go_wp2_with fail
              go_meet
              case rel => exact ⟨b, most, [], p, c, 0, rfl, Lib.hid (H8.out.mono (Nat.le_succ _)), Lib.hid (by have := HD.out; omega)⟩
            · rw [List.concat_eq_append] at hS
              subst hS
              obtain ⟨m, hm⟩ : ∃ m, T.length = m := ⟨_, rfl⟩
              have hnm : n = m + 1 := by have := HD.out.1; rw [List.length_append, List.length_singleton] at this; omega
              subst hnm
              have HM := Lib.hid hm
              have HP := Lib.hid HB.out.gx.pop
              have hxx : ((xk : Int) != (xk : Int)) = false := by rw [bne_self_eq_false]
              clear a0 a1 d0 d1 d2 hm
              go_wp2_with fail
              refine HP.out.mono ?_
              rintro e w7 ⟨rfl, hr⟩
              have H7 := Lib.hid (HB.out.op hr)
              obtain ⟨⟨d0, d1, d2⟩, e0, e1, e2⟩ := H7.out.cells
              have HRA := Lib.hid (rpop_some (most : Int) HM.out (by have := HD.out; have := HI.out; omega) H7.out.nc H7.out.ru)
              clear hr HP HB c0 c1 c2
              obtain ⟨m1, hm1⟩ : ∃ m1, m + 1 = m1 := ⟨_, rfl⟩
              have HM1 := Lib.hid hm1
              rw [hm1] at HRA d1 H7
              clear hm1
              go_wp2_with fail
              refine HRA.out.mono ?_
              rintro e w8 ⟨q, k8, rfl, hrow, b8⟩
              have hrr := Rrow.of (p := p) hrow HM.out b8
              have HR8 := Lib.hid hrr
              have H8 := Lib.hid (H7.out.put (mr' := (most : Int)) hrr)
              obtain ⟨f0, f1, f2⟩ := H7.out.rbAt HR8.out.2.2.2.2 #[.int .i64 (most : Int), .slice q m k8]
              clear hrow b8 hrr H7 d0 d1 d2 HRA e0 e1 e2
              go_wp2_with fail
              go_meet
              case rel => exact ⟨b, most, T, q, k8, m, rfl, Lib.hid (H8.out.mono (Nat.le_succ _)), Lib.hid (by have := HD.out; omega)⟩
        by_cases a3 : what = 3
        · subst a3
          as_aux_lemma =>
            clear a0 a1 a2
            by_cases hz : 0 ≤ z ∧ z ≤ 4096
            · obtain ⟨M, rfl⟩ : ∃ M : Nat, z = M := ⟨z.toNat, by omega⟩
              have HMM := Lib.hid (show M ≤ 4096 by omega)
              have HRZ := Lib.hid (HB.out.gx.resize M (by omega) (by have := HD.out; have := HI.out; omega))
              have hbl := HB.out.blt
              have HBL := Lib.hid hbl
              clear hz d0 d1 d2 hbl
              go_wp2_with fail
              refine HRZ.out.mono ?_
              rintro e w7 ⟨ov, rfl, hrow7, hr⟩
              have H7 := Lib.hid (HB.out.op hr)
              obtain ⟨⟨d0, d1, d2⟩, e0, e1, e2⟩ := H7.out.cells
              obtain ⟨m, hm⟩ : ∃ m, keys.length - M = m := ⟨_, rfl⟩
              obtain ⟨R, hR⟩ : ∃ R, (keys.drop M).reverse = R := ⟨_, rfl⟩
              have hRm : R.length = m := by rw [← hR, List.length_reverse, List.length_drop, hm]
              rw [hm, hR] at hrow7
              obtain ⟨p7, c7, rfl, ru7, hp7⟩ := row_ruH hrow7 (by rw [ints_len]; exact hRm)
              have R7 := Lib.hid (And.intro ru7 hp7)
              have HRA := Lib.hid (rresize_any (most : Int) M HMM.out HD.out.1 (by have := HD.out; have := HI.out; omega) H7.out.nc (fun y hy => (H7.out.pb y hy).1) H7.out.ru)
              rw [hm, hR] at HRA
              obtain ⟨n8, hn8⟩ : ∃ n8, min M keys.length = n8 := ⟨_, rfl⟩
              rw [hn8] at HRA
              have HN8 := Lib.hid (show (keys.take M).length = n8 ∧ n8 ≤ M ∧ n8 ≤ keys.length ∧ R.length = m ∧ m ≤ keys.length from ⟨by rw [List.length_take, hn8], by omega, by omega, hRm, by omega⟩)
              obtain ⟨KT, hKT⟩ : ∃ KT, keys.take M = KT := ⟨_, rfl⟩
              rw [hKT] at HRA H7 HN8
              clear hr hrow7 ru7 hp7 HRZ HB c0 c1 c2 hm hR hRm hn8 hKT
              go_wp2_with fail
              refine HRA.out.mono ?_
              rintro e w8 ⟨q, k8, ov2, rfl, hk8, ruq, hq, hrow8, b8⟩
              obtain ⟨p8, c8, rfl, ru8, hp8⟩ := row_ruH hrow8 (by rw [ints_len]; exact HN8.out.2.2.2.1)
              have hrr : Rrow w7 w8 p q n8 k8 KT := ⟨HN8.out.1, hk8, ruq, hq, b8⟩
              have HR8 := Lib.hid hrr
              have H8 := Lib.hid (H7.out.put (mr' := (M : Int)) hrr)
              obtain ⟨f0, f1, f2⟩ := H7.out.rbAt HR8.out.2.2.2.2 #[.int .i64 (M : Int), .slice q n8 k8]
              have hkp := put_kp (v8 := w8) (rb := rb) (cs := #[.int .i64 (M : Int), .slice q n8 k8]) (a1 := .int .i64 (M : Int)) (a2 := .slice q n8 k8)
              have RA := Lib.hid (Ru.kpH (R7.out.1.below b8) hkp (fun y hy => by have := R7.out.2 y hy; have := HBL.out; omega))
              have RB := Lib.hid (Ru.kpH ru8 hkp (fun y hy => by have := hp8 y hy; have := H7.out.blt; omega))
              clear hrow8 ru8 hp8 ruq hq hk8 b8 hrr H7 d0 d1 d2 HRA e0 e1 e2 hkp R7
              go_wp2_with fail
              refine (rsame_any (l1 := ints R) (l2 := ints R) (by rw [ints_len]; exact HN8.out.2.2.2.1) (by rw [ints_len]; exact HN8.out.2.2.2.1) RA.out RB.out (by have := HN8.out; have := HD.out; have := HI.out; omega) (by have := HN8.out; have := HD.out; have := HI.out; omega)).mono ?_
              rintro e w9 ⟨hsay, b9⟩
              obtain rfl := says_true hsay rfl
              have H9 := Lib.hid (H8.out.below b9)
              clear hsay b9 H8 RA RB f0 f1 f2
              go_wp2_with fail
              go_meet
              case rel => exact ⟨b, M, KT, q, k8, n8, rfl, Lib.hid (H9.out.mono (Nat.le_succ _)), Lib.hid (by have := HN8.out; have := HD.out; have := HMM.out; omega)⟩
            · have HRZ := Lib.hid (HB.out.gx.resize_bad z hz)
              have HRA := Lib.hid (fun v => rresize_bad (w := v) (p := p) (n := n) (c := c) (most : Int) z hz)
              clear hz
              go_wp2_with fail
              refine HRZ.out.mono ?_
              rintro e w7 ⟨rfl, rfl⟩
              have H7 := HB
              clear HRZ
              go_wp2_with fail
              refine (HRA.out _).mono ?_
              rintro e w8 ⟨rfl, b8⟩
              have hrr : Rrow w6 w8 p p n c keys := ⟨HD.out.1, H7.out.nc, H7.out.ru.below b8, fun y hy => ⟨Nat.lt_of_lt_of_le (H7.out.pb y hy).1 b8.size, .inl rfl⟩, b8⟩
              have HR8 := Lib.hid hrr
              have H8 := Lib.hid (H7.out.put (mr' := (most : Int)) hrr)
              obtain ⟨f0, f1, f2⟩ := H7.out.rbAt HR8.out.2.2.2.2 #[.int .i64 (most : Int), .slice p n c]
              clear b8 hrr H7 HB d0 d1 d2 HRA c0 c1 c2
              go_wp2_with fail
              refine (rsame_any (n1 := 0) (n2 := 0) (c1 := 0) (c2 := 0) (p1 := none) (p2 := none) (l1 := []) (l2 := []) rfl rfl (fun i x hx => by cases hx) (fun i x hx => by cases hx) (by omega) (by omega)).mono ?_
              rintro e w9 ⟨hsay, b9⟩
              obtain rfl := says_true hsay rfl
              have H9 := Lib.hid (H8.out.below b9)
              clear hsay b9 H8 f0 f1 f2
              go_wp2_with fail
              go_meet
              case rel => exact ⟨b, most, keys, p, c, n, rfl, Lib.hid (H9.out.mono (Nat.le_succ _)), Lib.hid (by have := HD.out; omega)⟩
        · as_aux_lemma =>
            have HCP := Lib.hid (HB.out.gx.copy (by omega))
            obtain ⟨k2, hk2, hk3⟩ : ∃ k2 : Nat, IntKind.u32.wrap ((kn : Int) + 99) = (k2 : Int) ∧ k2 < 4294967296 := by
              have h1 : IntKind.u32.wrap ((kn : Int) + 99) = ((kn : Int) + 99) % 4294967296 := by simp [IntKind.wrap, IntKind.bits, IntKind.signed]
              exact ⟨(((kn : Int) + 99) % 4294967296).toNat, by rw [h1]; omega, by omega⟩
            have HK2 := Lib.hid hk3
            clear d0 d1 d2 hk3
            go_wp2_with fail
            refine HCP.out.mono ?_
            rintro e w7 ⟨⟨b', rfl, hc⟩, b7⟩
            have D7 := Lib.hid (Dg.start HB.out.gx b7 hc)
            have P7 := Lib.hid (HB.out.below b7)
            obtain ⟨-, e0, e1, e2⟩ := P7.out.cells
            clear HCP hc b7 HB c0 c1 c2
            go_wp2_with fail
            refine (D7.out.old.add (by omega) (by have := HD.out; have := HI.out; omega) (by have := HD.out; have := HI.out; omega) k2 HK2.out (by have := HD.out; omega)).mono ?_
            rintro e w8 ⟨rfl, hr⟩
            have D8 := Lib.hid (D7.out.op hr)
            have hgl := addG_len (most := (most : Int)) (l := keys) (by have := HD.out; omega) k2
            obtain ⟨G1, hG⟩ : ∃ G1, (addG (most : Int) keys k2).1 = G1 := ⟨_, rfl⟩
            rw [hG] at D8 hgl
            have HGL := Lib.hid hgl
            clear hr D7 hG hgl hk2 e0 e1 e2
            go_wp2_with fail
            obtain ⟨KP, hpop⟩ : ∃ Kq : Nat → List Nat → Prop, True := ⟨fun _ _ => True, trivial⟩
            clear hpop KP
            refine (Gx.pop_any D8.out.old).mono ?_
            rintro e w9 ⟨x9, y9, G2, rfl, hG2, hr⟩
            have D9 := Lib.hid (D8.out.op hr)
            have HG2 := Lib.hid hG2
            clear hr D8 hG2
            go_wp2_with fail
            refine (D9.out.old.resize 0 (by omega) (by have := HG2.out; have := HGL.out; have := HD.out; have := HI.out; omega)).mono ?_
            rintro e w10 ⟨ov, rfl, -, hr⟩
            have D10 := Lib.hid (D9.out.op hr)
            have P10 := Lib.hid (P7.out.copied' D10.out)
            clear hr D9 P7 D10
            go_wp2_with fail
            go_meet
            case rel => exact ⟨b', most, keys, p, c, n, rfl, Lib.hid (P10.out.mono (Nat.le_succ _)), Lib.hid (by have := HD.out; omega)⟩
      case rest =>
        obtain ⟨b', most', keys', p', c', n', rfl, HP, HBD⟩ := hcut
        obtain ⟨kn, rfl⟩ : ∃ kn : Nat, k = kn := ⟨k.toNat, by omega⟩
        have hkn : kn < 4294967296 := by omega
        have HKN := Lib.hid hkn
        have HLT := Lib.hid hlt
        clear y0 y1 y2 hxw hws H k0 k1 hkn
        generalize wr.heap.size = bx at *
        go_wp2_with fail
        refine (Gx.keys' HP.out.gx (by have := HP.out.nl; have := HBD.out; omega)).mono ?_
        rintro e w11 ⟨u, rfl, hrow, b11⟩
        rw [HP.out.nl] at hrow
        have h11 : Kw wc w11 u n' := by
          refine ⟨b11, ?_⟩
          rcases own_row hrow (by rw [List.length_map, ints_len]; exact HP.out.nl) with ⟨rfl, h0⟩ | ⟨g, cap, rfl, h1, h2, h3, h4⟩
          · exact ⟨none, 0, by rw [h0], fun hn => absurd h0 (by omega)⟩
          · refine ⟨_, cap, rfl, fun _ => ⟨g, fun i => (ints keys').getD i 0, rfl, h1, h4.congr fun i hi => ?_⟩⟩
            have hnl := HP.out.nl
            show (List.map (Value.int .u32) (ints keys')).getD i (.int .i64 0) = .int .u32 ((ints keys').getD i 0)
            rw [List.getD_eq_getElem?_getD, List.getElem?_map, List.getD_eq_getElem?_getD, List.getElem?_eq_getElem (show i < (ints keys').length by rw [ints_len]; omega)]
            rfl
        have K11 := Lib.hid h11
        clear hrow b11 h11
        obtain ⟨ua, uc, rfl⟩ := K11.out.form
        go_wp2_with fail
        go_loopw [31] (fun jv v => ∃ j : Nat, j ≤ n' ∧ jv = .int .i64 (j : Int) ∧ Hid (Kw wc v (.slice ua n' uc) n')) (fun jv _ => n' - (intOf jv).toNat)
        case atStart => exact ⟨0, Nat.zero_le _, rfl, K11⟩
        case round =>
          obtain ⟨j, hj, rfl, KJ⟩ := hrel
          clear K11
          by_cases hjl : j < n'
          · obtain ⟨g, z0, rfl, hz0, hf, hset⟩ := KJ.out.at_ hjl
            have HS := Lib.hid hset
            have j0 : (0 : Int) ≤ (j : Int) := by omega
            have j1 : (j : Int) < (n' : Int) := by omega
            have wj := IntWalk.i64_in ((j : Int) + 1) (by have := HBD.out; omega)
            clear hset
            go_wp2_with fail
            go_roundw
            case rel => exact ⟨j + 1, by omega, by go_num, Lib.hid (HS.out _)⟩
            case measure => simp [intOf] <;> omega
          · have j1 : ¬ (j : Int) < (n' : Int) := by omega
            have P12 := Lib.hid (HP.out.below KJ.out.1)
            obtain ⟨⟨f0, f1, f2⟩, e0, e1, e2⟩ := P12.out.cells
            have wi := IntWalk.i64_in ((i : Int) + 1) (by have := HI.out; have := HLT.out; omega)
            clear KJ HP
            go_wp2_with fail
            refine (equal28 P12.out.gx P12.out.nl (by have := HBD.out; omega) P12.out.ru HKN.out).mono ?_
            rintro e w13 ⟨rfl, b13⟩
            have P13 := Lib.hid (P12.out.below b13)
            clear b13 P12 e0 e1 e2 f0 f1 f2
            go_wp2_with fail
            go_roundw
            case rel => exact ⟨i + 1, b', most', keys', p', c', n', by omega, by go_num, rfl, Lib.hid (P13.out.pn (Nat.le_refl _) HBD.out.1 HBD.out.2.1 HBD.out.2.2)⟩
            case measure => simp [intOf] <;> omega
    · have hlti : ¬ (i : Int) < (len : Int) := by omega
      have B9 := Lib.hid H.out.gx.bl
      go_wp2_with fail
      exact bodyPost_ret (v := .bool true) (by simp [results, Try.results59, go_sem]) rfl ⟨rfl, B9.out⟩
end Go.Proofs.Ytjcabdnjimcdgaa.Gho
namespace Go.Proofs.Ytjcabdnjimcdgaa.Gho
open Go Go.RowKit Kit Go.Maps Lnk
set_option maxRecDepth 100000 in
set_option maxHeartbeats 4000000 in
theorem lplays28_in {w : World} {n : Nat} {a : Option Addr} {len cap : Nat} {f0 f1 f2 : Nat → Int} (hacts : Ac3 w.heap.size w a len f0 f1 f2) (hn : n ≤ 40) (hlen : len ≤ 100) (HK : ∀ v, Below w.heap.size w v → Calls Try.prog 56 #[] v fun e w' => e = .returned (.bool true) ∧ Below v.heap.size v w') :
    Calls Try.prog 12 #[.int .i64 (n : Int), .slice a len cap] w fun e w' => e = .returned (.bool true) ∧ Below w.heap.size w w' := by
  have HNW := Lib.hid (gnew_ok w n (by omega))
  have HK0 := Lib.hid HK
  have HA := Lib.hid hacts
  have HI := Lib.hid (show n ≤ 40 ∧ len ≤ 100 from ⟨hn, hlen⟩)
  have HRN := Lib.hid (fun v => rnew_any (w := v) (n := (n : Int)) (by omega) (by omega))
  have h1 : ¬ (n : Int) < 0 := by omega
  have h2 : ¬ 40 < (n : Int) := by omega
  have h3 : ¬ 100 < (len : Int) := by omega
  clear hn hlen HK hacts
  go_enter Try.func12, Try.ntmps12
  go_wp2_with fail
  refine HNW.out.mono ?_
  rintro e w1 ⟨b, rfl, gs⟩
  have G1 := Lib.hid ((gs.mono (Nat.le_refl 0) (show 1 ≤ 10000 by omega)).gx)
  clear gs HNW
  go_wp2_with fail
  refine (HRN.out _).mono ?_
  rintro e w2 ⟨rfl, b2⟩
  have G2 := Lib.hid (G1.out.below' b2)
  have hA : Below w2.heap.size w2 (w2.alloc (.cells #[.int .i64 (n : Int), .slice none 0 0] 106)) := by go_grown
  have G3 := Lib.hid (G2.out.below' hA)
  have hx := (MapKept.heap_alloc w2 (.cells #[.int .i64 (n : Int), .slice none 0 0] 106)).1
  have c0 : (w2.alloc (.cells #[.int .i64 (n : Int), .slice none 0 0] 106)).cell? ⟨w2.heap.size, 0, none⟩ = some (.int .i64 (n : Int)) := by simp only [World.cell?, hx] <;> simp
  have c1 : (w2.alloc (.cells #[.int .i64 (n : Int), .slice none 0 0] 106)).cell? ⟨w2.heap.size, 1, none⟩ = some (.slice none 0 0) := by simp only [World.cell?, hx] <;> simp
  clear b2 G1 G2 HRN hA hx
  go_wp2_with fail
  refine (plays28 (cap := cap) G3.out HI.out.1 HA.out HI.out.2).mono ?_
  rintro e w4 ⟨rfl, b4⟩
  have B4 := Lib.hid b4
  clear b4 c0 c1 G3
  go_wp2_with fail
  refine (HK0.out _ B4.out).mono ?_
  rintro e w5 ⟨rfl, b5⟩
  have B5 := Lib.hid (tr B4.out b5)
  clear b5
  go_wp2_with fail
  exact bodyPost_ret (v := .bool true) (by simp [results, Try.results12, go_sem]) rfl ⟨rfl, B5.out⟩
set_option maxRecDepth 100000 in
set_option maxHeartbeats 4000000 in
theorem lplays28 {w : World} {n : Int} {a : Option Addr} {len cap : Nat} {f0 f1 f2 : Nat → Int} (hacts : Ac3 w.heap.size w a len f0 f1 f2) (HK : ∀ v, Below w.heap.size w v → Calls Try.prog 56 #[] v fun e w' => e = .returned (.bool true) ∧ Below v.heap.size v w') :
    Calls Try.prog 12 #[.int .i64 n, .slice a len cap] w fun e w' => e = .returned (.bool true) ∧ Below w.heap.size w w' := by
  by_cases hc : 0 ≤ n ∧ n ≤ 40 ∧ len ≤ 100
  · obtain ⟨M, rfl⟩ := Int.eq_ofNat_of_zero_le (show 0 ≤ n by omega)
    exact lplays28_in hacts (by omega) (by omega) HK
  · have HKN := Lib.hid (HK w (Below.refl _ _))
    have hd : n < 0 ∨ (¬ n < 0 ∧ 40 < n) ∨ (¬ n < 0 ∧ ¬ 40 < n ∧ 100 < (len : Int)) := by omega
    clear hc HK hacts
    rcases hd with h1 | ⟨h1, h2⟩ | ⟨h1, h2, h3⟩
    all_goals (
      go_enter Try.func12, Try.ntmps12
      go_wp2_with fail
      refine HKN.out.mono ?_
      rintro e u ⟨rfl, bl⟩
      go_wp2_with fail
      exact bodyPost_ret (v := .bool true) (by simp [results, Try.results12, go_sem]) rfl ⟨rfl, bl⟩)
end Go.Proofs.Ytjcabdnjimcdgaa.Gho
