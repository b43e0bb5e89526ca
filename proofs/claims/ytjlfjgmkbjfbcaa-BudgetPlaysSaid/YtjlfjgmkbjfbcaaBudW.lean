/-
  Walks over package budget (layer 17): the small functions.
-/
import Derived.Test.YtjlfjgmkbjfbcaaProg
import Derived.Test.YtjlfjgmkbjfbcaaKit
import Derived.Deep.RegionWith
import Derived.BigRegion
import Derived.BigQuiet
import Derived.Deep.QuietTactic
namespace Go.Proofs.Ytjlfjgmkbjfbcaa.Bud
open Go.RowKit Kit

/-- a budget: what it may have, and what each segment has -/
structure S where
  mc : Int
  mb : Int
  n0 : Int
  c0 : Int
  n1 : Int
  c1 : Int
def S.cells (s : S) : Array Value := #[.int .i64 s.mc, .int .i64 s.mb, .int .i64 s.n0, .int .i64 s.c0, .int .i64 s.n1, .int .i64 s.c1]
/-- what a budget that was made can have -/
def S.ok (s : S) : Prop := 1 ≤ s.mc ∧ s.mc ≤ 1048576 ∧ 1 ≤ s.mb ∧ s.mb ≤ 1099511627776 ∧ 0 ≤ s.n0 ∧ s.n0 ≤ 2097152 ∧ 0 ≤ s.c0 ∧ s.c0 ≤ 2305843009213693952 ∧ 0 ≤ s.n1 ∧ s.n1 ≤ 2097152 ∧ 0 ≤ s.c1 ∧ s.c1 ≤ 2305843009213693952
/-- a block of some cells, not frozen -/
def BoxA (W : World) (b : Nat) (t : TypeId) (vs : Array Value) : Prop := W.heap[b]? = some (.cells vs t (0, 0))
theorem BoxA.lt {W : World} {b : Nat} {t : TypeId} {vs : Array Value} (h : BoxA W b t vs) : b < W.heap.size := (Array.getElem?_eq_some_iff.1 h).1
theorem BoxA.cell {W : World} {b : Nat} {t : TypeId} {vs : Array Value} (h : BoxA W b t vs) (j : Nat) : W.cell? ⟨b, j, none⟩ = vs[j]? := by simp [World.cell?, show W.heap[b]? = _ from h]
theorem BoxA.frozen {W : World} {b : Nat} {t : TypeId} {vs : Array Value} (h : BoxA W b t vs) (j : Nat) : W.frozen? ⟨b, j, none⟩ = false := by simp [World.frozen?, show W.heap[b]? = _ from h]
theorem BoxA.other {W : World} {b b' : Nat} {t : TypeId} {vs : Array Value} (h : BoxA W b t vs) (hne : b ≠ b') (o : Nat) (u : Value) : BoxA (W.setCell ⟨b', o, none⟩ u) b t vs :=
  (Below.heap_setCell _ _ _ b hne).trans h
theorem BoxA.set {W : World} {b j : Nat} {t : TypeId} {vs : Array Value} (h : BoxA W b t vs) (hj : j < vs.size) (u : Value) : BoxA (W.setCell ⟨b, j, none⟩ u) b t (vs.set j u hj) := by
  obtain ⟨hlt, hk⟩ := Array.getElem?_eq_some_iff.1 h
  show (W.heap.modify b _)[b]? = _
  rw [Array.getElem?_eq_getElem (by rw [Array.size_modify]; exact hlt), Array.getElem_modify_self, hk]
  simp [Array.setIfInBounds, hj]
theorem BoxA.below {W W' : World} {b : Nat} {t : TypeId} {vs : Array Value} (h : BoxA W b t vs) (hb : Below W.heap.size W W') : BoxA W' b t vs := (hb.block b h.lt).trans h
def Bud (W : World) (b : Nat) (s : S) : Prop := BoxA W b 48 s.cells
/-- the six cells -/
theorem Bud.cs {W : World} {b : Nat} {s : S} (h : Bud W b s) : W.cell? ⟨b, 0, none⟩ = some (.int .i64 s.mc) ∧ W.cell? ⟨b, 1, none⟩ = some (.int .i64 s.mb) ∧ W.cell? ⟨b, 2, none⟩ = some (.int .i64 s.n0) ∧ W.cell? ⟨b, 3, none⟩ = some (.int .i64 s.c0) ∧ W.cell? ⟨b, 4, none⟩ = some (.int .i64 s.n1) ∧ W.cell? ⟨b, 5, none⟩ = some (.int .i64 s.c1) :=
  ⟨BoxA.cell h 0, BoxA.cell h 1, BoxA.cell h 2, BoxA.cell h 3, BoxA.cell h 4, BoxA.cell h 5⟩
theorem isSegment_any (g : Int) (w : World) :
    Calls Try.prog 32 #[.int .i64 g] w fun e w' => e = .returned (.bool (decide (0 ≤ g ∧ g < 2))) ∧ w = w' := by
  by_cases h0 : 0 ≤ g
  · by_cases h1 : g < 2
    all_goals
      go_enter Try.func32, Try.ntmps32
      go_wp2
      go_ret
      exact ⟨ret_bool (by simp; omega), rfl⟩
  · go_enter Try.func32, Try.ntmps32
    go_wp2
    go_ret
    exact ⟨ret_bool (by simp; omega), rfl⟩
theorem isCost_any (c : Int) (w : World) :
    Calls Try.prog 33 #[.int .i64 c] w fun e w' => e = .returned (.bool (decide (0 ≤ c ∧ c ≤ 1099511627776))) ∧ w = w' := by
  by_cases h0 : 0 ≤ c
  · by_cases h1 : c ≤ 1099511627776
    all_goals
      go_enter Try.func33, Try.ntmps33
      go_wp2
      go_ret
      exact ⟨ret_bool (by simp; omega), rfl⟩
  · go_enter Try.func33, Try.ntmps33
    go_wp2
    go_ret
    exact ⟨ret_bool (by simp; omega), rfl⟩
/-- which limits are allowed -/
def okLim (a b : Int) : Bool := decide (1 ≤ a ∧ a ≤ 1048576 ∧ 1 ≤ b ∧ b ≤ 1099511627776)
theorem allowed_any (a b : Int) (w : World) :
    Calls Try.prog 29 #[.int .i64 a, .int .i64 b] w fun e w' => e = .returned (.bool (okLim a b)) ∧ w = w' := by
  unfold okLim
  by_cases h0 : 1 ≤ a
  · by_cases h1 : a ≤ 1048576
    · by_cases h2 : 1 ≤ b
      · by_cases h3 : b ≤ 1099511627776
        all_goals
          go_enter Try.func29, Try.ntmps29
          go_wp2
          go_ret
          exact ⟨ret_bool (by simp; omega), rfl⟩
      · go_enter Try.func29, Try.ntmps29
        go_wp2
        go_ret
        exact ⟨ret_bool (by simp; omega), rfl⟩
    · go_enter Try.func29, Try.ntmps29
      go_wp2
      go_ret
      exact ⟨ret_bool (by simp; omega), rfl⟩
  · go_enter Try.func29, Try.ntmps29
    go_wp2
    go_ret
    exact ⟨ret_bool (by simp; omega), rfl⟩
theorem isZero_nil (w : World) :
    Calls Try.prog 31 #[.pointer none] w fun e w' => e = .returned (.bool true) ∧ w = w' := by
  go_enter Try.func31, Try.ntmps31
  go_wp2
  go_ret
  exact ⟨rfl, rfl⟩
theorem isZero_no (b : Nat) (s : S) (hs : s.ok) (w : World) (hb : Bud w b s) :
    Calls Try.prog 31 #[.pointer (some ⟨b, 0, none⟩)] w fun e w' => e = .returned (.bool false) ∧ w = w' := by
  obtain ⟨e0, e1, -, -, -, -⟩ := hb.cs
  have h0 : 1 ≤ s.mc := hs.1
  clear hs hb
  generalize s.mc = mc at *
  generalize s.mb = mb at *
  go_enter Try.func31, Try.ntmps31
  go_wp2
  go_ret
  exact ⟨rfl, rfl⟩
theorem isZero_zero (b : Nat) (w : World) (h0 : w.cell? ⟨b, 0, none⟩ = some (.int .i64 0)) (h1 : w.cell? ⟨b, 1, none⟩ = some (.int .i64 0)) :
    Calls Try.prog 31 #[.pointer (some ⟨b, 0, none⟩)] w fun e w' => e = .returned (.bool true) ∧ w = w' := by
  go_enter Try.func31, Try.ntmps31
  go_wp2
  go_ret
  exact ⟨rfl, rfl⟩
theorem plus_any (a b c d : Int) (w : World) :
    Calls Try.prog 34 #[.agg #[.int .i64 a, .int .i64 b], .agg #[.int .i64 c, .int .i64 d]] w fun e w' => e = .returned (.agg #[.int .i64 (wrap64 (a + c)), .int .i64 (wrap64 (b + d))]) ∧ Below w.heap.size w w' := by
  go_enter Try.func34, Try.ntmps34
  go_wp2
  refine bodyPost_ret (v := .agg #[.int .i64 (wrap64 (a + c)), .int .i64 (wrap64 (b + d))]) (by simp [results, Try.results34, go_sem]) rfl ?_
  exact ⟨rfl, by go_grown⟩
theorem minus_any (a b c d : Int) (w : World) :
    Calls Try.prog 37 #[.agg #[.int .i64 a, .int .i64 b], .agg #[.int .i64 c, .int .i64 d]] w fun e w' => e = .returned (.agg #[.int .i64 (wrap64 (a + wrap64 (-c))), .int .i64 (wrap64 (b + wrap64 (-d)))]) ∧ Below w.heap.size w w' := by
  go_enter Try.func37, Try.ntmps37
  go_wp2_with fail
  refine (plus_any _ _ _ _ _).mono ?_
  rintro e w1 ⟨rfl, b1⟩
  have hb := Bx.new ((w.alloc (.cells #[.int .i64 a, .int .i64 b] 45)).alloc (.cells #[.int .i64 c, .int .i64 d] 45)) 45 (.int .i64 0) (.int .i64 0)
  simp only [World.size_alloc] at hb
  have hx := hb.below b1
  have k0 := hx.c0
  have k1 := hx.c1
  have f0 := hx.fr 0
  have f1 := hx.fr 1
  go_wp2_with fail
  obtain ⟨_, r1, r2⟩ := res2 (a := .int .i64 (wrap64 (a + wrap64 (-c)))) (b := .int .i64 (wrap64 (b + wrap64 (-d)))) k0 k1
  refine bodyPost_ret (v := .agg #[.int .i64 (wrap64 (a + wrap64 (-c))), .int .i64 (wrap64 (b + wrap64 (-d)))]) (by simp [results, Try.results37, go_sem, r1, r2]) rfl ?_
  exact ⟨rfl, (((by go_grown : Below w.heap.size w (((w.alloc (.cells #[.int .i64 a, .int .i64 b] 45)).alloc (.cells #[.int .i64 c, .int .i64 d] 45)).alloc (.cells #[.int .i64 0, .int .i64 0] 45))).trans (b1.mono (by simp; omega))).setCell (p := ⟨w.heap.size + 1 + 1, 0, none⟩) (by show w.heap.size ≤ w.heap.size + 1 + 1; omega) _).setCell (p := ⟨w.heap.size + 1 + 1, 1, none⟩) (by show w.heap.size ≤ w.heap.size + 1 + 1; omega) _⟩
theorem fits_any (a b : Int) (w : World) :
    Calls Try.prog 35 #[.agg #[.int .i64 a, .int .i64 b]] w fun e w' => e = .returned (.bool (decide (a ≤ 2097152 ∧ b ≤ 2305843009213693952))) ∧ Below w.heap.size w w' := by
  by_cases h0 : a ≤ 2097152
  · by_cases h1 : b ≤ 2305843009213693952
    all_goals
      go_enter Try.func35, Try.ntmps35
      go_wp2
      go_ret
      exact ⟨ret_bool (by simp; omega), by go_grown⟩
  · go_enter Try.func35, Try.ntmps35
    go_wp2
    go_ret
    exact ⟨ret_bool (by simp; omega), by go_grown⟩
/-- whether entries can be those of a segment, one of which costs c -/
def hasB (n t c : Int) : Bool := (n != 0 || t != 0) && (decide (c ≤ t) && (decide (1 < n) || t == c))
theorem has_any (n t c : Int) (w : World) :
    Calls Try.prog 36 #[.agg #[.int .i64 n, .int .i64 t], .int .i64 c] w fun e w' => e = .returned (.bool (hasB n t c)) ∧ Below w.heap.size w w' := by
  go_enter Try.func36, Try.ntmps36
  go_wp2
  all_goals
    go_ret
    refine ⟨ret_bool ?_, by go_grown⟩
    unfold hasB
    grind
theorem New_bad (a b : Int) (h : okLim a b = false) (w : World) :
    Calls Try.prog 9 #[.int .i64 a, .int .i64 b] w fun e w' => e = .returned (.tuple #[.pointer none, .int .i64 2]) ∧ w = w' := by
  go_enter Try.func9, Try.ntmps9
  go_wp2_with fail
  refine (allowed_any a b _).mono ?_
  rintro e w1 ⟨rfl, rfl⟩
  rw [h]
  go_wp2_with fail
  go_ret2
  exact ⟨rfl, rfl⟩
theorem New_ok (a b : Int) (h : okLim a b = true) (w : World) :
    Calls Try.prog 9 #[.int .i64 a, .int .i64 b] w fun e w' => e = .returned (.tuple #[.pointer (some ⟨w.heap.size, 0, none⟩), .int .i64 0]) ∧ w' = w.alloc (.cells (S.mk a b 0 0 0 0).cells 48) := by
  go_enter Try.func9, Try.ntmps9
  go_wp2_with fail
  refine (allowed_any a b _).mono ?_
  rintro e w1 ⟨rfl, rfl⟩
  rw [h]
  go_wp2_with fail
  go_ret2
  exact ⟨rfl, rfl⟩
end Go.Proofs.Ytjlfjgmkbjfbcaa.Bud
