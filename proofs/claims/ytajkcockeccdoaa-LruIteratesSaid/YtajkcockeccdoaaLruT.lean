/-
  Plain LRU lists (layer 15): what an operation leaves alone; a copy and the list that it was copied from; a row that is the law's own.
-/
import Derived.Test.YtajkcockeccdoaaLruK
import Derived.Test.YtajkcockeccdoaaLruS
set_option linter.unusedVariables false
set_option linter.unusedSimpArgs false
namespace Go.Proofs.Ytajkcockeccdoaa.Lru
open Go Go.RowKit Kit Go.Shelf Lnk
theorem Opr.parts {w v : World} {o c q r : Nat} {l' : List Nat} (op : Opr w v o c q r l') : ∃ c' q' r' cq cr N F, Lu v o c' q' r' cq cr N F l' ∧ (∀ k, Ob4 o c' q' r' k → Ob4 o c q r k ∨ w.heap.size ≤ k) ∧ Kp (Ob4 o c q r) w v := by
  obtain ⟨c', q', r', cq, cr, N, F, k1, k2, k3, k4, k5⟩ := op
  refine ⟨c', q', r', cq, cr, N, F, k1, fun k hk => ?_, k5⟩
  rcases hk with rfl | rfl | rfl | rfl
  · exact .inl (.inl rfl)
  · rcases k2 with rfl | k2
    · exact .inl (.inr (.inl rfl))
    · exact .inr k2
  · rcases k3 with rfl | k3
    · exact .inl (.inr (.inr (.inl rfl)))
    · exact .inr k3
  · rcases k4 with rfl | k4
    · exact .inl (.inr (.inr (.inr rfl)))
    · exact .inr k4
theorem Lu.blk {w : World} {o c q r cq cr N : Nat} {F : Lnk.Fd} {l : List Nat} (H : Lu w o c q r cq cr N F l) {k : Nat} (hk : Ob4 o c q r k) : k < w.heap.size := by
  obtain ⟨a, b, d, e⟩ := H.lt
  rcases hk with rfl | rfl | rfl | rfl <;> assumption
theorem ru_kp {v v' : World} {bad : Nat → Prop} {p : Option Addr} {xs : List Int} (r : Ru v p xs) (hk : Kp bad v v') (hb : ∀ y, p = some y → xs ≠ [] → ¬ bad y.block) : Ru v' p xs := fun i x hx => by
  obtain ⟨y, hy, hlt, hc⟩ := r i x hx
  refine ⟨y, hy, Nat.lt_of_lt_of_le hlt hk.size, ?_⟩
  rw [← hc]
  unfold World.cell?
  rw [Lnk.add_block, hk.block _ hlt (hb y hy fun e => by rw [e] at hx; cases hx)]
theorem ru_blk {v : World} {p : Option Addr} {m : List Nat} (r : Ru v p (ints m)) : ∀ y, p = some y → m ≠ [] → y.block < v.heap.size := fun y hy hne => by
  cases m with
  | nil => exact absurd rfl hne
  | cons a m =>
    obtain ⟨y', hy', hb, _⟩ := r 0 (a : Int) (Lnk.ints_at (l := a :: m) rfl)
    rw [hy] at hy'
    cases hy'
    exact hb
theorem ints_ne {m : List Nat} (h : ints m ≠ []) : m ≠ [] := fun e => h (by rw [e]; rfl)
/-- a list at o and a row for m, and another list at oo, all apart and new since w -/
def Cp (w v : World) (o : Nat) (l : List Nat) (p : Option Addr) (m : List Nat) (oo : Nat) (ll : List Nat) : Prop :=
  ∃ c q r cq cr N F c2 q2 r2 cq2 cr2 N2 F2, Lu v o c q r cq cr N F l ∧ Lu v oo c2 q2 r2 cq2 cr2 N2 F2 ll ∧ (∀ k, Ob4 o c q r k → w.heap.size ≤ k ∧ ¬ Ob4 oo c2 q2 r2 k) ∧ (∀ k, Ob4 oo c2 q2 r2 k → w.heap.size ≤ k) ∧ Ru v p (ints m) ∧ (∀ y, p = some y → m ≠ [] → ¬ Ob4 o c q r y.block ∧ ¬ Ob4 oo c2 q2 r2 y.block) ∧ Below w.heap.size w v
section
variable {w v : World} {o oo : Nat} {l m ll : List Nat} {p : Option Addr}
theorem Lst.copy (h : Hid (Lst w v o l p m)) : Calls Try.prog 101 #[.pointer (some ⟨o, 0, none⟩)] v fun e w' => ∃ o', e = .returned (.pointer (some ⟨o', 0, none⟩)) ∧ Hid (Cp w w' o' l p m o l) := by
  obtain ⟨c, q, r, cq, cr, N, F, h1, h2, h3, h4, h5⟩ := h.out
  refine (Copy15_any h1).mono fun e w' ⟨⟨o', c', q', r', cq', cr', k1, k2, k3⟩, b⟩ => ⟨o', k1, Lib.hid ?_⟩
  have hs := h5.size
  refine ⟨c', q', r', cq', cr', N, F, c, q, r, cq, cr, N, F, k2, h1.below b, fun k hk => ?_, fun k hk => ?_, h3.below b, fun y hy hn => ⟨fun hk => ?_, h4 y hy hn⟩, tr h5 b⟩
  · have : v.heap.size ≤ k := by rcases hk with rfl | rfl | rfl | rfl <;> omega
    exact ⟨by omega, fun hk' => by have := h1.blk hk'; omega⟩
  · rcases hk with rfl | rfl | rfl | rfl <;> omega
  · have := ru_blk h3 y hy hn
    rcases hk with hk | hk | hk | hk <;> omega
theorem Cp.lst (h : Hid (Cp w v o l p m oo ll)) : Hid (Lst w v o l p m) := by
  obtain ⟨c, q, r, cq, cr, N, F, c2, q2, r2, cq2, cr2, N2, F2, h1, h2, h3, h4, h5, h6, h7⟩ := h.out
  exact Lib.hid ⟨c, q, r, cq, cr, N, F, h1, ⟨(h3 _ (.inl rfl)).1, (h3 _ (.inr (.inl rfl))).1, (h3 _ (.inr (.inr (.inl rfl)))).1, (h3 _ (.inr (.inr (.inr rfl)))).1⟩, h5, fun y hy hn => (h6 y hy hn).1, h7⟩
theorem Cp.opr {v' : World} {c q r cq cr N c2 q2 r2 cq2 cr2 N2 : Nat} {F F2 : Lnk.Fd} {ll' : List Nat} (h1 : Lu v o c q r cq cr N F l) (h2 : Lu v oo c2 q2 r2 cq2 cr2 N2 F2 ll) (h3 : ∀ k, Ob4 o c q r k → w.heap.size ≤ k ∧ ¬ Ob4 oo c2 q2 r2 k) (h4 : ∀ k, Ob4 oo c2 q2 r2 k → w.heap.size ≤ k) (h5 : Ru v p (ints m)) (h6 : ∀ y, p = some y → m ≠ [] → ¬ Ob4 o c q r y.block ∧ ¬ Ob4 oo c2 q2 r2 y.block) (h7 : Below w.heap.size w v) (op : Opr v v' oo c2 q2 r2 ll') : Hid (Cp w v' o l p m oo ll') := by
  obtain ⟨c', q', r', cq', cr', N', F', k1, k2, k3⟩ := op.parts
  have hs := h7.size
  refine Lib.hid ⟨c, q, r, cq, cr, N, F, c', q', r', cq', cr', N', F', h1.kp k3 fun k hk => (h3 k hk).2, k1, fun k hk => ⟨(h3 k hk).1, fun hk' => ?_⟩, fun k hk => ?_, ru_kp h5 k3 fun y hy hn => (h6 y hy (ints_ne hn)).2, fun y hy hn => ⟨(h6 y hy hn).1, fun hk => ?_⟩, h7.trans (k3.below (n := w.heap.size) (fun k hk hb => by have := h4 k hb; omega) hs)⟩
  · rcases k2 k hk' with h | h
    · exact (h3 k hk).2 h
    · have := h1.blk hk; omega
  · rcases k2 k hk with h | h
    · exact h4 k h
    · omega
  · rcases k2 _ hk with h | h
    · exact (h6 y hy hn).2 h
    · have := ru_blk h5 y hy hn; omega
theorem Cp.add (h : Hid (Cp w v o l p m oo ll)) (x : Nat) (hx : x < 4294967296) : Calls Try.prog 45 #[.pointer (some ⟨oo, 0, none⟩), .int .u32 (x : Int)] v fun e w' => ∃ z ll', e = .returned (.int .i64 z) ∧ Hid (Cp w w' o l p m oo ll') := by
  obtain ⟨c, q, r, cq, cr, N, F, c2, q2, r2, cq2, cr2, N2, F2, h1, h2, h3, h4, h5, h6, h7⟩ := h.out
  exact (Add_any h2 x hx).mono fun e w' ⟨a, b⟩ => ⟨_, _, a, Cp.opr h1 h2 h3 h4 h5 h6 h7 b⟩
theorem Cp.use (h : Hid (Cp w v o l p m oo ll)) (x : Nat) (hx : x < 4294967296) : Calls Try.prog 47 #[.pointer (some ⟨oo, 0, none⟩), .int .u32 (x : Int)] v fun e w' => ∃ z ll', e = .returned (.int .i64 z) ∧ Hid (Cp w w' o l p m oo ll') := by
  obtain ⟨c, q, r, cq, cr, N, F, c2, q2, r2, cq2, cr2, N2, F2, h1, h2, h3, h4, h5, h6, h7⟩ := h.out
  exact (Use_any h2 x hx).mono fun e w' ⟨a, b⟩ => ⟨_, _, a, Cp.opr h1 h2 h3 h4 h5 h6 h7 b⟩
theorem Cp.rem (h : Hid (Cp w v o l p m oo ll)) (x : Nat) (hx : x < 4294967296) : Calls Try.prog 48 #[.pointer (some ⟨oo, 0, none⟩), .int .u32 (x : Int)] v fun e w' => ∃ z ll', e = .returned (.int .i64 z) ∧ Hid (Cp w w' o l p m oo ll') := by
  obtain ⟨c, q, r, cq, cr, N, F, c2, q2, r2, cq2, cr2, N2, F2, h1, h2, h3, h4, h5, h6, h7⟩ := h.out
  exact (Remove_any h2 x hx).mono fun e w' ⟨a, b⟩ => ⟨_, _, a, Cp.opr h1 h2 h3 h4 h5 h6 h7 b⟩
end
/-- a row of n numbers, in a block from B on, that may be written -/
def RowW (w : World) (B : Nat) (o : Option Addr) (n : Nat) : Prop := n = 0 ∨ ∃ g cs, o = some ⟨g, 0, none⟩ ∧ B ≤ g ∧ w.heap[g]? = some (.cells cs 38 (0, 0)) ∧ ∀ j, j < n → ∃ u : Int, cs[j]? = some (.int .u32 u)
theorem row_w {w : World} {B n k : Nat} {q : Option Addr} {l : List Int} (h : Ks w B (.slice q n k) l) (hl : l.length = n) : RowW w B q n := by
  subst hl
  obtain ⟨_, ⟨hv, hn⟩ | ⟨g, cap, cur, hv, hb, hg, hc, hm, hs, ht⟩⟩ := h
  · exact .inl hn
  · cases hv
    refine .inr ⟨g, cur, rfl, hb, hg, fun j hj => ?_⟩
    have h2 : (cur.toList.take (l.length * 1))[j]? = some (.int .u32 (l[j]'hj)) := by rw [ht]; simp [hj]
    rw [List.getElem?_take_of_lt (by omega)] at h2
    exact ⟨_, by simpa using h2⟩
/-- a list at o, a row for m, and a box at b, all apart and new since w -/
def Lb (w v : World) (o : Nat) (l : List Nat) (p : Option Addr) (m : List Nat) (b : Nat) (ob : Obj) : Prop :=
  ∃ c q r cq cr N F, Lu v o c q r cq cr N F l ∧ (∀ k, Ob4 o c q r k → w.heap.size ≤ k ∧ k ≠ b) ∧ Ru v p (ints m) ∧ (∀ y, p = some y → m ≠ [] → ¬ Ob4 o c q r y.block) ∧ v.heap[b]? = some ob ∧ w.heap.size ≤ b ∧ Below w.heap.size w v
section
variable {w v : World} {o n b : Nat} {l m : List Nat} {p : Option Addr} {ob : Obj}
theorem Lb.lst (h : Hid (Lb w v o l p m b ob)) : Hid (Lst w v o l p m) := by
  obtain ⟨c, r, s, cq, cr, N, F, h1, h2, h3, h4, h5, h6, h7⟩ := h.out
  exact Lib.hid ⟨c, r, s, cq, cr, N, F, h1, ⟨(h2 _ (.inl rfl)).1, (h2 _ (.inr (.inl rfl))).1, (h2 _ (.inr (.inr (.inl rfl)))).1, (h2 _ (.inr (.inr (.inr rfl)))).1⟩, h3, h4, h7⟩
theorem Lb.below {v' : World} (h : Hid (Lb w v o l p m b ob)) (hb : Below v.heap.size v v') : Hid (Lb w v' o l p m b ob) := by
  obtain ⟨c, r, s, cq, cr, N, F, h1, h2, h3, h4, h5, h6, h7⟩ := h.out
  exact Lib.hid ⟨c, r, s, cq, cr, N, F, h1.below hb, h2, h3.below hb, h4, (hb.block _ (Array.getElem?_eq_some_iff.1 h5).1).trans h5, h6, tr h7 hb⟩
theorem Lst.box (h : Hid (Lst w v o l p m)) (ob : Obj) (hv : (v.alloc ob).heap[v.heap.size]? = some ob) (hb : Below v.heap.size v (v.alloc ob)) : Hid (Lb w (v.alloc ob) o l p m v.heap.size ob) := by
  obtain ⟨c, r, s, cq, cr, N, F, h1, h2, h3, h4, h5⟩ := h.out
  exact Lib.hid ⟨c, r, s, cq, cr, N, F, h1.below hb, fun k hk => ⟨by rcases hk with rfl | rfl | rfl | rfl <;> omega, by have := h1.blk hk; omega⟩, h3.below hb, h4, hv, h5.size, tr h5 hb⟩
theorem Lb.cell (h : Hid (Lb w v o l p m b ob)) {cs : Array Value} {t : TypeId} {e : Nat × Nat} (ho : ob = .cells cs t e) (j : Nat) (x : Value) (hx : cs[j]? = some x) : v.cell? ⟨b, j, none⟩ = some x := by
  obtain ⟨c, r, s, cq, cr, N, F, h1, h2, h3, h4, h5, h6, h7⟩ := h.out
  subst ho
  simp only [World.cell?, h5]
  exact hx
theorem Lb.opr {v' : World} {c q r cq cr N : Nat} {F : Lnk.Fd} {l' : List Nat} (h1 : Lu v o c q r cq cr N F l) (h2 : ∀ k, Ob4 o c q r k → w.heap.size ≤ k ∧ k ≠ b) (h3 : Ru v p (ints m)) (h4 : ∀ y, p = some y → m ≠ [] → ¬ Ob4 o c q r y.block) (h5 : v.heap[b]? = some ob) (h6 : w.heap.size ≤ b) (h7 : Below w.heap.size w v) (op : Opr v v' o c q r l') : Hid (Lb w v' o l' p m b ob) := by
  obtain ⟨c', q', r', cq', cr', N', F', k1, k2, k3⟩ := op.parts
  have hs := h7.size
  have hb := (Array.getElem?_eq_some_iff.1 h5).1
  refine Lib.hid ⟨c', q', r', cq', cr', N', F', k1, fun k hk => ?_, ru_kp h3 k3 fun y hy hn => h4 y hy (ints_ne hn), fun y hy hn hk => ?_, (k3.block _ hb fun hk => (h2 _ hk).2 rfl).trans h5, h6, h7.trans (k3.below (n := w.heap.size) (fun k hk hb => by have := (h2 k hb).1; omega) hs)⟩
  · rcases k2 k hk with h | h
    · exact h2 k h
    · exact ⟨by omega, by omega⟩
  · rcases k2 _ hk with h | h
    · exact h4 y hy hn h
    · have := ru_blk h3 y hy hn; omega
theorem Lb.add (h : Hid (Lb w v o l p m b ob)) (x : Nat) (z : Int) (l' : List Nat) (hx : x < 4294967296) (hz : addC l x = z) (hl : addL l x = l') : Calls Try.prog 45 #[.pointer (some ⟨o, 0, none⟩), .int .u32 (x : Int)] v fun e w' => e = .returned (.int .i64 z) ∧ Hid (Lb w w' o l' p m b ob) := by
  obtain ⟨c, r, s, cq, cr, N, F, h1, h2, h3, h4, h5, h6, h7⟩ := h.out
  subst hz hl
  exact (Add_any h1 x hx).mono fun e w' ⟨a, k⟩ => ⟨a, Lb.opr h1 h2 h3 h4 h5 h6 h7 k⟩
theorem Lb.use (h : Hid (Lb w v o l p m b ob)) (x : Nat) (z : Int) (l' : List Nat) (hx : x < 4294967296) (hz : remC l x = z) (hl : useL l x = l') : Calls Try.prog 47 #[.pointer (some ⟨o, 0, none⟩), .int .u32 (x : Int)] v fun e w' => e = .returned (.int .i64 z) ∧ Hid (Lb w w' o l' p m b ob) := by
  obtain ⟨c, r, s, cq, cr, N, F, h1, h2, h3, h4, h5, h6, h7⟩ := h.out
  subst hz hl
  exact (Use_any h1 x hx).mono fun e w' ⟨a, k⟩ => ⟨a, Lb.opr h1 h2 h3 h4 h5 h6 h7 k⟩
theorem Lb.rem (h : Hid (Lb w v o l p m b ob)) (x : Nat) (z : Int) (l' : List Nat) (hx : x < 4294967296) (hz : remC l x = z) (hl : l.erase x = l') : Calls Try.prog 48 #[.pointer (some ⟨o, 0, none⟩), .int .u32 (x : Int)] v fun e w' => e = .returned (.int .i64 z) ∧ Hid (Lb w w' o l' p m b ob) := by
  obtain ⟨c, r, s, cq, cr, N, F, h1, h2, h3, h4, h5, h6, h7⟩ := h.out
  subst hz hl
  exact (Remove_any h1 x hx).mono fun e w' ⟨a, k⟩ => ⟨a, Lb.opr h1 h2 h3 h4 h5 h6 h7 k⟩
theorem Lb.rr {v' : World} {e : Ending} {m' : List Nat} {z : Int} {k : Nat} (h : Hid (Lb w v o l p m b ob)) (hk : m'.length = k) (hr : Rr e v' v.heap.size p m m' z) (hb : Below v.heap.size v v') : ∃ p' c', e = .returned (.tuple #[.slice p' k c', .int .i64 z]) ∧ Hid (Lb w v' o l p' m' b ob) ∧ k ≤ c' := by
  obtain ⟨c, r, s, cq, cr, N, F, h1, h2, h3, h4, h5, h6, h7⟩ := h.out
  subst hk
  obtain ⟨p', c', he, hru, hc, hp⟩ := hr
  refine ⟨p', c', he, Lib.hid ⟨c, r, s, cq, cr, N, F, h1.below hb, h2, hru, fun y hy hn hk => ?_, (hb.block _ (Array.getElem?_eq_some_iff.1 h5).1).trans h5, h6, tr h7 hb⟩, hc⟩
  rcases hp with ⟨rfl, rfl⟩ | hp
  · exact h4 y hy hn hk
  · have := hp y hy
    have := h1.blk hk
    omega
theorem Lb.ru (h : Hid (Lb w v o l p m b ob)) : Ru v p (ints m) := by
  obtain ⟨c, r, s, cq, cr, N, F, h1, h2, h3, h4, h5, h6, h7⟩ := h.out
  exact h3
end
/-- and another row at q of n numbers -/
def Lw (w v : World) (o : Nat) (l : List Nat) (p : Option Addr) (m : List Nat) (b : Nat) (ob : Obj) (q : Option Addr) (n : Nat) : Prop :=
  ∃ c r s cq cr N F, Lu v o c r s cq cr N F l ∧ (∀ k, Ob4 o c r s k → w.heap.size ≤ k ∧ k ≠ b) ∧ Ru v p (ints m) ∧ (∀ y, p = some y → m ≠ [] → ¬ Ob4 o c r s y.block) ∧ v.heap[b]? = some ob ∧ w.heap.size ≤ b ∧ RowW v w.heap.size q n ∧ (∀ y, q = some y → n ≠ 0 → ¬ Ob4 o c r s y.block ∧ y.block < v.heap.size ∧ y.block ≠ b ∧ ∀ y', p = some y' → m ≠ [] → y'.block ≠ y.block) ∧ Below w.heap.size w v
section
variable {w v : World} {o n b : Nat} {l m : List Nat} {p q : Option Addr} {ob : Obj}
theorem Lw.lb (h : Hid (Lw w v o l p m b ob q n)) : Hid (Lb w v o l p m b ob) := by
  obtain ⟨c, r, s, cq, cr, N, F, h1, h2, h3, h4, h8, h9, h5, h6, h7⟩ := h.out
  exact Lib.hid ⟨c, r, s, cq, cr, N, F, h1, h2, h3, h4, h8, h9, h7⟩
theorem Lw.below {v' : World} (h : Hid (Lw w v o l p m b ob q n)) (hb : Below v.heap.size v v') : Hid (Lw w v' o l p m b ob q n) := by
  obtain ⟨c, r, s, cq, cr, N, F, h1, h2, h3, h4, h8, h9, h5, h6, h7⟩ := h.out
  refine Lib.hid ⟨c, r, s, cq, cr, N, F, h1.below hb, h2, h3.below hb, h4, (hb.block _ (Array.getElem?_eq_some_iff.1 h8).1).trans h8, h9, ?_, fun y hy hn => ⟨(h6 y hy hn).1, Nat.lt_of_lt_of_le (h6 y hy hn).2.1 hb.size, (h6 y hy hn).2.2⟩, tr h7 hb⟩
  rcases h5 with h5 | ⟨g, cs, k1, k2, k3, k4⟩
  · exact .inl h5
  · exact .inr ⟨g, cs, k1, k2, (hb.block _ (Array.getElem?_eq_some_iff.1 k3).1).trans k3, k4⟩
/-- a new row -/
theorem Lb.own {v' : World} {k : Nat} {T : List Nat} (h : Hid (Lb w v o l p m b ob)) (hb : Below v.heap.size v v') (ks : Ks v' v.heap.size (.slice q n k) (ints T)) (hT : T.length = n) : Hid (Lw w v' o l p m b ob q n) ∧ Hid (Ru v' q (ints T)) := by
  obtain ⟨c, r, s, cq, cr, N, F, h1, h2, h3, h4, h8, h9, h5⟩ := h.out
  have hs := h5.size
  have hln : (ints T).length = n := by rw [ints_len, hT]
  have hw := row_w ks hln
  have hbl := (Array.getElem?_eq_some_iff.1 h8).1
  obtain ⟨q', k', e, hru⟩ := ks_ru ks
  cases e
  refine ⟨Lib.hid ⟨c, r, s, cq, cr, N, F, h1.below hb, h2, h3.below hb, h4, (hb.block _ hbl).trans h8, h9, ?_, fun y hy hn => ?_, tr h5 hb⟩, Lib.hid hru⟩
  · rcases hw with hw | ⟨g, cs, k1, k2, k3, k4⟩
    · exact .inl hw
    · exact .inr ⟨g, cs, k1, by omega, k3, k4⟩
  · have hy0 := ks_from ks y hy
    have hne : T ≠ [] := fun e => hn (by rw [← hT, e]; rfl)
    exact ⟨fun hk => by have := h1.blk hk; omega, ru_blk hru y hy hne, by omega, fun y' hy' hn' => by have := ru_blk h3 y' hy' hn'; omega⟩
/-- all slots are renumbered by the row -/
theorem Lw.ren (h : Hid (Lw w v o l p m b ob q n)) (k : Nat) {T : List Nat} (R : Hid (Ru v q (ints T))) (hT : T.length = n) (hM : n ≤ 1000000) (hw : ∀ x ∈ T, x < 4294967296) (z : Int) (l' : List Nat) (hz : rnC T l = z) (hl : rnL T l = l') :
    Calls Try.prog 99 #[.pointer (some ⟨o, 0, none⟩), .slice q n k] v fun e w' => e = .returned (.int .i64 z) ∧ Hid (Lw w w' o l' p m b ob q n) ∧ Hid (Ru w' q (ints T)) := by
  have h0 := h
  obtain ⟨c, r, s, cq, cr, N, F, h1, h2, h3, h4, h8, h9, h5, h6, h7⟩ := h.out
  have hnn : ints T ≠ [] → n ≠ 0 := fun hh e => ints_ne hh (List.length_eq_zero_iff.1 (hT.trans e))
  subst hz hl
  refine (Renumber15 (ct := k) h1 hT hM R.out hw).mono fun e w' hq => ?_
  unfold RnQ at hq
  cases hx : rnum T l [] with
  | none =>
    rw [hx] at hq
    rw [(rn_none hx).1, (rn_none hx).2]
    exact ⟨hq.1, Lw.below h0 hq.2, Lib.hid (R.out.below hq.2)⟩
  | some x =>
    rw [hx] at hq
    rw [(rn_some hx).1, (rn_some hx).2]
    obtain ⟨c', q', r', cq', cr', N', F', k1, k2, k3⟩ := hq.2.parts
    have hs := h7.size
    have hbl := (Array.getElem?_eq_some_iff.1 h8).1
    refine ⟨hq.1, Lib.hid ⟨c', q', r', cq', cr', N', F', k1, fun k hk => ?_, ru_kp h3 k3 fun y hy hn => h4 y hy (ints_ne hn), fun y hy hn hk => ?_, (k3.block _ hbl fun hk => (h2 _ hk).2 rfl).trans h8, h9, ?_, fun y hy hn => ⟨fun hk => ?_, Nat.lt_of_lt_of_le (h6 y hy hn).2.1 k3.size, (h6 y hy hn).2.2⟩, h7.trans (k3.below (n := w.heap.size) (fun k hk hb => by have := (h2 k hb).1; omega) hs)⟩, Lib.hid (ru_kp R.out k3 fun y hy hn => (h6 y hy (hnn hn)).1)⟩
    · rcases k2 k hk with h | h
      · exact h2 k h
      · exact ⟨by omega, by omega⟩
    · rcases k2 _ hk with h | h
      · exact h4 y hy hn h
      · have := ru_blk h3 y hy hn; omega
    · rcases h5 with h5 | ⟨g, cs, j1, j2, j3, j4⟩
      · exact .inl h5
      · by_cases hn : n = 0
        · exact .inl hn
        · exact .inr ⟨g, cs, j1, j2, (k3.block _ (Array.getElem?_eq_some_iff.1 j3).1 (h6 _ j1 hn).1).trans j3, j4⟩
    · rcases k2 _ hk with h | h
      · exact (h6 y hy hn).1 h
      · have := (h6 y hy hn).2.1; omega
/-- a number of the row is changed -/
theorem Lw.at_ (h : Hid (Lw w v o l p m b ob q n)) {j : Nat} (hj : j < n) : ∃ g z, q = some ⟨g, 0, none⟩ ∧ w.heap.size ≤ g ∧ g < v.heap.size ∧ v.cell? ⟨g, j, none⟩ = some (.int .u32 z) ∧ (∀ i, v.frozen? ⟨g, i, none⟩ = false) ∧ ∀ z', Hid (Lw w (v.setCell ⟨g, j, none⟩ (.int .u32 z')) o l p m b ob q n) := by
  obtain ⟨c, r, s, cq, cr, N, F, h1, h2, h3, h4, h8, h9, h5, h6, h7⟩ := h.out
  rcases h5 with h5 | ⟨g, cs, j1, j2, j3, j4⟩
  · omega
  · obtain ⟨u, hu⟩ := j4 j hj
    have hg := h6 _ j1 (by omega)
    have hbl := (Array.getElem?_eq_some_iff.1 h8).1
    refine ⟨g, u, j1, j2, hg.2.1, by simp only [World.cell?, j3]; exact hu, fun i => by simp [World.frozen?, j3], fun z' => Lib.hid ?_⟩
    have hk : Kp (fun k => k = g) v (v.setCell ⟨g, j, none⟩ (.int .u32 z')) := Kp.setCell (bad := fun k => k = g) (b := g) (Kp.refl (fun k => k = g) v) (.inl rfl) _
    refine ⟨c, r, s, cq, cr, N, F, h1.kp hk fun k hk' e => hg.1 (e ▸ hk'), h2, ru_kp h3 hk fun y hy hn => (hg.2.2.2 y hy (ints_ne hn)), h4, (hk.block _ hbl fun e => hg.2.2.1 e.symm).trans h8, h9, .inr ⟨g, _, j1, j2, heap_set j3 (.int .u32 z'), fun i hi => ?_⟩, fun y hy hn => ⟨(h6 y hy hn).1, Nat.lt_of_lt_of_le (h6 y hy hn).2.1 hk.size, (h6 y hy hn).2.2⟩, h7.trans (hk.below (n := w.heap.size) (fun k hk hb => by omega) h7.size)⟩
    by_cases hij : i = j
    · subst hij
      exact ⟨z', by rw [Array.getElem?_setIfInBounds_self_of_lt (Array.getElem?_eq_some_iff.1 hu).1]⟩
    · obtain ⟨y, hy⟩ := j4 i hi
      exact ⟨y, by rw [Array.getElem?_setIfInBounds_ne (by omega)]; exact hy⟩
end
end Go.Proofs.Ytajkcockeccdoaa.Lru
