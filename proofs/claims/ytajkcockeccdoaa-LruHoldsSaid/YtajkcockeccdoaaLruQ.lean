/-
  Plain LRU lists (layer 15): two lists that lie apart.
-/
import Derived.Test.YtajkcockeccdoaaLruN
import Derived.Test.YtajkcockeccdoaaLruO
set_option linter.unusedVariables false
set_option linter.unusedSimpArgs false
namespace Go.Proofs.Ytajkcockeccdoaa.Lru
open Go Go.RowKit Kit Go.Shelf Lnk
/-- two lists, new since w, that lie apart -/
def Two (w v : World) (oa : Nat) (la : List Nat) (ob : Nat) (lb : List Nat) : Prop :=
  ∃ ca qa ra xa ya Na Fa cb qb rb xb yb Nb Fb, Lu v oa ca qa ra xa ya Na Fa la ∧ Lu v ob cb qb rb xb yb Nb Fb lb ∧ (∀ k, Ob4 oa ca qa ra k → w.heap.size ≤ k ∧ ¬ Ob4 ob cb qb rb k) ∧ (∀ k, Ob4 ob cb qb rb k → w.heap.size ≤ k) ∧ Below w.heap.size w v
section
variable {w v : World} {oa ob : Nat} {la lb : List Nat}
theorem Two.symm (h : Hid (Two w v oa la ob lb)) : Hid (Two w v ob lb oa la) := by
  obtain ⟨ca, qa, ra, xa, ya, Na, Fa, cb, qb, rb, xb, yb, Nb, Fb, h1, h2, h3, h4, h5⟩ := h.out
  exact Lib.hid ⟨cb, qb, rb, xb, yb, Nb, Fb, ca, qa, ra, xa, ya, Na, Fa, h2, h1, fun k hk => ⟨h4 k hk, fun hk' => (h3 k hk').2 hk⟩, fun k hk => (h3 k hk).1, h5⟩
theorem Two.below {v' : World} (h : Hid (Two w v oa la ob lb)) (hb : Below v.heap.size v v') : Hid (Two w v' oa la ob lb) := by
  obtain ⟨ca, qa, ra, xa, ya, Na, Fa, cb, qb, rb, xb, yb, Nb, Fb, h1, h2, h3, h4, h5⟩ := h.out
  exact Lib.hid ⟨ca, qa, ra, xa, ya, Na, Fa, cb, qb, rb, xb, yb, Nb, Fb, h1.below hb, h2.below hb, h3, h4, tr h5 hb⟩
theorem Two.base (h : Hid (Two w v oa la ob lb)) : Below w.heap.size w v := by
  obtain ⟨_, _, _, _, _, _, _, _, _, _, _, _, _, _, _, _, _, _, h5⟩ := h.out
  exact h5
theorem Two.used (h : Hid (Two w v oa la ob lb)) (x : Nat) (hx : x < 4194304) (most : Nat) (l' : List Nat) (hl : la.length ≤ most) (hm : most ≤ 5000) (hl' : usedL la x most = l') : Calls Try.prog 49 #[.pointer (some ⟨oa, 0, none⟩), .int .u32 (x : Int), .int .i64 (most : Int)] v fun e w' => e = .returned (.bool true) ∧ Hid (Two w w' oa l' ob lb) := by
  subst hl'
  obtain ⟨ca, qa, ra, xa, ya, Na, Fa, cb, qb, rb, xb, yb, Nb, Fb, h1, h2, h3, h4, h5⟩ := h.out
  refine (used_any h1 x hx hl hm).mono fun e w' ⟨a, b⟩ => ⟨a, ?_⟩
  obtain ⟨c', q', r', cq, cr, N, F, k1, k2, k3, k4, k5⟩ := b
  have l2 := h2.lt
  have hs := h5.size
  have hin : ∀ k, Ob4 oa c' q' r' k → Ob4 oa ca qa ra k ∨ v.heap.size ≤ k := fun k hk => by
    rcases hk with rfl | rfl | rfl | rfl
    · exact .inl (.inl rfl)
    · rcases k2 with rfl | k2
      · exact .inl (.inr (.inl rfl))
      · exact .inr k2
    · rcases k3 with rfl | k3
      · exact .inl (.inr (.inr (.inl rfl)))
      · exact .inr k3
    · rcases k4 with rfl | k4
      · exact .inl (.inr (.inr (.inr rfl)))
      · exact .inr k4
  have hlt : ∀ k, Ob4 ob cb qb rb k → k < v.heap.size := fun k hk => by rcases hk with rfl | rfl | rfl | rfl <;> omega
  exact Lib.hid ⟨c', q', r', cq, cr, N, F, cb, qb, rb, xb, yb, Nb, Fb, k1, h2.of fun k hk => k5.block k (hlt k hk) fun hk' => (h3 k hk').2 hk,
    fun k hk => by
      rcases hin k hk with h | h
      · exact h3 k h
      · exact ⟨by omega, fun hb => by have := hlt k hb; omega⟩, h4, h5.trans (k5.below (n := w.heap.size) (fun k hk hb => by have := (h3 k hb).1; omega) hs)⟩
theorem Two.coll (h : Hid (Two w v oa la ob lb)) (n : Nat) (hn : la.length = n) (hl : n ≤ 5000) : Calls Try.prog 51 #[.pointer (some ⟨oa, 0, none⟩)] v fun e w' => ∃ p c, e = .returned (.slice p n c) ∧ Hid (Ru w' p (ints la)) ∧ Hid (Two w w' oa la ob lb) := by
  subst hn
  obtain ⟨ca, qa, ra, xa, ya, Na, Fa, cb, qb, rb, xb, yb, Nb, Fb, h1, h2, h3, h4, h5⟩ := h.out
  exact (collect_lu h1 hl).mono fun e w' ⟨⟨u, k1, k2⟩, b⟩ => by
    obtain ⟨p, cp, k3, k4⟩ := ks_ru k2
    rw [ints_len] at k3
    exact ⟨p, cp, k3 ▸ k1, Lib.hid k4, Two.below h b⟩
theorem Two.last (h : Hid (Two w v oa la ob lb)) {p0 : Option Addr} {l0 : List Int} (R0 : Hid (Ru v p0 l0)) {p : Option Addr} {xs : List Nat} (n c most m : Nat) (l' : List Nat) (hx : xs.length = n) (hn : n ≤ 1000) (hm : most ≤ 1000) (R : Ru v p (ints xs)) (hl : lastG most xs.reverse [] = l') (hk : l'.length = m) :
    Calls Try.prog 52 #[.slice p n c, .int .i64 (most : Int)] v fun e w' => ∃ p' c', e = .returned (.slice p' m c') ∧ Hid (Ru w' p' (ints l')) ∧ Hid (Ru w' p0 l0) ∧ Hid (Two w w' oa la ob lb) := by
  subst hl hk
  exact (last_any (c := c) hx hn hm R).mono fun e w' ⟨⟨u, k1, k2⟩, b⟩ => by
    obtain ⟨p, cp, k3, k4⟩ := ks_ru k2
    rw [ints_len] at k3
    exact ⟨p, cp, k3 ▸ k1, Lib.hid k4, Lib.hid (R0.out.below b), Two.below h b⟩
theorem Two.same (h : Hid (Two w v oa la ob lb)) {p1 p2 : Option Addr} {l : List Nat} (R1 : Hid (Ru v p1 (ints l))) (R2 : Hid (Ru v p2 (ints l))) (n c1 c2 : Nat) (hl : l.length = n) (hn : n ≤ 5000) :
    Calls Try.prog 50 #[.slice p1 n c1, .slice p2 n c2] v fun e w' => e = .returned (.bool true) ∧ Hid (Two w w' oa la ob lb) :=
  (same15_any (c1 := c1) (c2 := c2) ((ints_len l).trans hl) ((ints_len l).trans hl) R1.out R2.out (by omega) (by omega)).mono fun e w' ⟨⟨t, h1, h2⟩, b⟩ => ⟨by rw [h1, h2.2 rfl], Two.below h b⟩
theorem Two.has (h : Hid (Two w v oa la ob lb)) {p : Option Addr} {l : List Int} (R : Hid (Ru v p l)) (x : Nat) (hx : x < 4294967296) (hm : x ∈ lb) : Calls Try.prog 53 #[.pointer (some ⟨ob, 0, none⟩), .int .u32 (x : Int)] v fun e w' => e = .returned (.bool true) ∧ Hid (Ru w' p l) ∧ Hid (Two w w' oa la ob lb) := by
  obtain ⟨ca, qa, ra, xa, ya, Na, Fa, cb, qb, rb, xb, yb, Nb, Fb, h1, h2, h3, h4, h5⟩ := h.out
  exact (Has_any h2 x hx).mono fun e w' ⟨a, b⟩ => ⟨by rw [a, decide_eq_true hm], Lib.hid (R.out.below b), Two.below h b⟩
end
theorem two_new {w v u : World} {o c q r cq cr N : Nat} {F : Lnk.Fd} {oa ca qa ra xa ya Na : Nat} {Fa : Lnk.Fd} (ha : Lu v oa ca qa ra xa ya Na Fa []) (g : w.heap.size ≤ oa ∧ w.heap.size ≤ ca ∧ w.heap.size ≤ qa ∧ w.heap.size ≤ ra) (hb : Below w.heap.size w v) (H : Lu u o c q r cq cr N F []) (k : v.heap.size ≤ o ∧ v.heap.size ≤ c ∧ v.heap.size ≤ q ∧ v.heap.size ≤ r) (b : Below v.heap.size v u) : Two w u oa [] o [] := by
  have l := ha.lt
  have hs := hb.size
  exact ⟨ca, qa, ra, xa, ya, Na, Fa, c, q, r, cq, cr, N, F, ha.below b, H, fun j hj => ⟨by rcases hj with rfl | rfl | rfl | rfl <;> omega, fun hj' => by rcases hj with rfl | rfl | rfl | rfl <;> rcases hj' with h | h | h | h <;> omega⟩, fun j hj => by rcases hj with rfl | rfl | rfl | rfl <;> omega, tr hb b⟩
end Go.Proofs.Ytajkcockeccdoaa.Lru
