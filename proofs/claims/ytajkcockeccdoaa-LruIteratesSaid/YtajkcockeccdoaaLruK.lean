/-
  Plain LRU lists (layer 15): LruLast.
-/
import Derived.Test.YtajkcockeccdoaaLruJ
set_option linter.unusedVariables false
set_option linter.unusedSimpArgs false
namespace Go.Proofs.Ytajkcockeccdoaa.Lru
open Go Go.RowKit Kit Go.Shelf Lnk
/-- the list at o stands for l, the reference's row for m; both are new since w, and apart -/
def Lst (w v : World) (o : Nat) (l : List Nat) (p : Option Addr) (m : List Nat) : Prop :=
  ∃ c q r cq cr N F, Lu v o c q r cq cr N F l ∧ (w.heap.size ≤ o ∧ w.heap.size ≤ c ∧ w.heap.size ≤ q ∧ w.heap.size ≤ r) ∧ Ru v p (ints m) ∧ (∀ y, p = some y → m ≠ [] → ¬ Ob4 o c q r y.block) ∧ Below w.heap.size w v
section
variable {w v : World} {o : Nat} {l m : List Nat} {p : Option Addr}
theorem Lst.below {v' : World} (h : Lst w v o l p m) (hb : Below v.heap.size v v') : Lst w v' o l p m := by
  obtain ⟨c, q, r, cq, cr, N, F, h1, h2, h3, h4, h5⟩ := h
  exact ⟨c, q, r, cq, cr, N, F, h1.below hb, h2, h3.below hb, h4, tr h5 hb⟩
theorem Lst.opr {v' : World} {c q r : Nat} {l' : List Nat} (h2 : w.heap.size ≤ o ∧ w.heap.size ≤ c ∧ w.heap.size ≤ q ∧ w.heap.size ≤ r) (h3 : Ru v p (ints m)) (h4 : ∀ y, p = some y → m ≠ [] → ¬ Ob4 o c q r y.block) (h5 : Below w.heap.size w v) (op : Opr v v' o c q r l') : Lst w v' o l' p m := by
  obtain ⟨c', q', r', cq, cr, N, F, k1, k2, k3, k4, k5⟩ := op
  have hs := h5.size
  have hrow : ∀ y, p = some y → m ≠ [] → y.block < v.heap.size := fun y hy hne => by
    cases m with
    | nil => exact absurd rfl hne
    | cons a m =>
      obtain ⟨y', hy', hb, _⟩ := h3 0 (a : Int) (Lnk.ints_at (l := a :: m) rfl)
      rw [hy] at hy'
      cases hy'
      exact hb
  have hne : ∀ (i : Nat) (x : Int), (ints m)[i]? = some x → m ≠ [] := fun i x hx e => by rw [e] at hx; cases hx
  refine ⟨c', q', r', cq, cr, N, F, k1, ⟨h2.1, by rcases k2 with rfl | k <;> omega, by rcases k3 with rfl | k <;> omega, by rcases k4 with rfl | k <;> omega⟩, fun i x hx => ?_, fun y hy hn hb => ?_, h5.trans (k5.below (n := w.heap.size) (fun k hk hb => by rcases hb with rfl | rfl | rfl | rfl <;> omega) hs)⟩
  · obtain ⟨y, hy, hb, hc⟩ := h3 i x hx
    refine ⟨y, hy, Nat.lt_of_lt_of_le hb k5.size, ?_⟩
    rw [← hc]
    unfold World.cell?
    rw [Lnk.add_block, k5.block _ hb (h4 y hy (hne i x hx))]
  · have hlt := hrow y hy hn
    refine h4 y hy hn ?_
    rcases hb with hb | hb | hb | hb
    · exact .inl hb
    · rcases k2 with rfl | k
      · exact .inr (.inl hb)
      · omega
    · rcases k3 with rfl | k
      · exact .inr (.inr (.inl hb))
      · omega
    · rcases k4 with rfl | k
      · exact .inr (.inr (.inr hb))
      · omega
theorem Lst.row {v' : World} {p' : Option Addr} {m' : List Nat} (h : Lst w v o l p m) (hb : Below v.heap.size v v') (hr : Ru v' p' (ints m')) (ha : (p' = p ∧ m' = m) ∨ ∀ y, p' = some y → v.heap.size ≤ y.block) : Lst w v' o l p' m' := by
  obtain ⟨c, q, r, cq, cr, N, F, h1, h2, h3, h4, h5⟩ := h
  have hl := h1.lt
  refine ⟨c, q, r, cq, cr, N, F, h1.below hb, h2, hr, ?_, tr h5 hb⟩
  rcases ha with ⟨rfl, rfl⟩ | ha
  · exact h4
  · intro y hy _ hk
    have := ha y hy
    rcases hk with hk | hk | hk | hk <;> omega
theorem Lst.new (w : World) : Calls Try.prog 41 #[] w fun e w' => ∃ o, e = .returned (.pointer (some ⟨o, 0, none⟩)) ∧ Hid (Lst w w' o [] none []) :=
  (New_any w).mono fun e w' ⟨⟨o, c, q, r, F, h1, h2, h3⟩, h4⟩ => ⟨o, h1, Lib.hid ⟨c, q, r, _, _, _, F, h2, h3, (fun i x hx => by simp [ints] at hx), (fun y hy => by cases hy), h4⟩⟩
theorem Lst.add (h : Hid (Lst w v o l p m)) (x : Nat) (z : Int) (l' : List Nat) (hx : x < 4294967296) (hz : addC l x = z) (hl : addL l x = l') : Calls Try.prog 45 #[.pointer (some ⟨o, 0, none⟩), .int .u32 (x : Int)] v fun e w' => e = .returned (.int .i64 z) ∧ Hid (Lst w w' o l' p m) := by
  obtain ⟨c, q, r, cq, cr, N, F, h1, h2, h3, h4, h5⟩ := h.out
  subst hz hl
  exact (Add_any h1 x hx).mono fun e w' ⟨a, b⟩ => ⟨a, Lib.hid (Lst.opr h2 h3 h4 h5 b)⟩
theorem Lst.use (h : Hid (Lst w v o l p m)) (x : Nat) (z : Int) (l' : List Nat) (hx : x < 4294967296) (hz : remC l x = z) (hl : useL l x = l') : Calls Try.prog 47 #[.pointer (some ⟨o, 0, none⟩), .int .u32 (x : Int)] v fun e w' => e = .returned (.int .i64 z) ∧ Hid (Lst w w' o l' p m) := by
  obtain ⟨c, q, r, cq, cr, N, F, h1, h2, h3, h4, h5⟩ := h.out
  subst hz hl
  exact (Use_any h1 x hx).mono fun e w' ⟨a, b⟩ => ⟨a, Lib.hid (Lst.opr h2 h3 h4 h5 b)⟩
theorem Lst.rem (h : Hid (Lst w v o l p m)) (x : Nat) (z : Int) (l' : List Nat) (hx : x < 4294967296) (hz : remC l x = z) (hl : l.erase x = l') : Calls Try.prog 48 #[.pointer (some ⟨o, 0, none⟩), .int .u32 (x : Int)] v fun e w' => e = .returned (.int .i64 z) ∧ Hid (Lst w w' o l' p m) := by
  obtain ⟨c, q, r, cq, cr, N, F, h1, h2, h3, h4, h5⟩ := h.out
  subst hz hl
  exact (Remove_any h1 x hx).mono fun e w' ⟨a, b⟩ => ⟨a, Lib.hid (Lst.opr h2 h3 h4 h5 b)⟩
theorem Lst.rr {v' : World} {e : Ending} {m' : List Nat} {z : Int} {k : Nat} (h : Hid (Lst w v o l p m)) (hk : m'.length = k) (hr : Rr e v' v.heap.size p m m' z) (hb : Below v.heap.size v v') : ∃ p' c', e = .returned (.tuple #[.slice p' k c', .int .i64 z]) ∧ Hid (Lst w v' o l p' m') ∧ k ≤ c' := by
  subst hk
  obtain ⟨p', c', h1, h2, h3, h4⟩ := hr
  exact ⟨p', c', h1, Lib.hid (h.out.row hb h2 h4), h3⟩
theorem Lst.radd (h : Hid (Lst w v o l p m)) (n c x : Nat) (z : Int) (m' : List Nat) (k : Nat) (hm : m.length = n) (hn : n ≤ 100000) (hc : n ≤ c) (hx : x < 4294967296) (hz : addC m x = z) (hl : addL m x = m') (hk : m'.length = k) : Calls Try.prog 44 #[.slice p n c, .int .u32 (x : Int)] v fun e w' => ∃ p' c', e = .returned (.tuple #[.slice p' k c', .int .i64 z]) ∧ Hid (Lst w w' o l p' m') ∧ k ≤ c' := by
  have h0 := h.out
  obtain ⟨_, _, _, _, _, _, _, h1, h2, h3, h4, h5⟩ := h0
  subst hz hl
  exact (radd15_any hm hn hc h3 x hx).mono fun e w' ⟨a, b⟩ => Lst.rr h hk a b
theorem Lst.ruse (h : Hid (Lst w v o l p m)) (n c x : Nat) (z : Int) (m' : List Nat) (k : Nat) (hm : m.length = n) (hn : n ≤ 100000) (hc : n ≤ c) (hx : x < 4294967296) (hbl : ∀ y ∈ m, y < 4194304) (hnd : m.Nodup) (hz : remC m x = z) (hl : useL m x = m') (hk : m'.length = k) : Calls Try.prog 54 #[.slice p n c, .int .u32 (x : Int)] v fun e w' => ∃ p' c', e = .returned (.tuple #[.slice p' k c', .int .i64 z]) ∧ Hid (Lst w w' o l p' m') ∧ k ≤ c' := by
  have h0 := h.out
  obtain ⟨_, _, _, _, _, _, _, h1, h2, h3, h4, h5⟩ := h0
  subst hz hl
  exact (ruse15_any hm hn hc h3 x hx hbl hnd).mono fun e w' ⟨a, b⟩ => Lst.rr h hk a b
theorem Lst.rrem (h : Hid (Lst w v o l p m)) (n c x : Nat) (z : Int) (m' : List Nat) (k : Nat) (hm : m.length = n) (hn : n ≤ 100000) (hc : n ≤ c) (hx : x < 4294967296) (hbl : ∀ y ∈ m, y < 4194304) (hz : remC m x = z) (hl : m.erase x = m') (hk : m'.length = k) : Calls Try.prog 55 #[.slice p n c, .int .u32 (x : Int)] v fun e w' => ∃ p' c', e = .returned (.tuple #[.slice p' k c', .int .i64 z]) ∧ Hid (Lst w w' o l p' m') ∧ k ≤ c' := by
  have h0 := h.out
  obtain ⟨_, _, _, _, _, _, _, h1, h2, h3, h4, h5⟩ := h0
  subst hz hl
  exact (rrem15_any hm hn hc h3 x hx hbl).mono fun e w' ⟨a, b⟩ => Lst.rr h hk a b
theorem Lst.is_ (h : Hid (Lst w v o l p l)) (n c x : Nat) (hl : l.length = n) (hn : n ≤ 5000) (hx : x < 4294967296) : Calls Try.prog 43 #[.pointer (some ⟨o, 0, none⟩), .slice p n c, .int .u32 (x : Int)] v fun e w' => e = .returned (.bool true) ∧ Hid (Lst w w' o l p l) := by
  have h0 := h.out
  obtain ⟨_, _, _, _, _, _, _, h1, h2, h3, h4, h5⟩ := h0
  exact (is15_any h1 hl hn h3 x hx).mono fun e w' ⟨a, b⟩ => ⟨a, Lib.hid (h.out.below b)⟩
end
end Go.Proofs.Ytajkcockeccdoaa.Lru
