/-
  Steps of a budget (layer 17), whatever the arguments are.
-/
import Derived.Test.YtjlfjgmkbjfbcaaBudL
set_option linter.unusedVariables false
set_option linter.unusedSimpArgs false
namespace Go.Proofs.Ytjlfjgmkbjfbcaa.Bud
open Go.RowKit Kit
/-- a budget after at most k calls -/
def Inv (k : Int) (s : S) : Prop :=
  (1 ≤ s.mc ∧ s.mc ≤ 1048576 ∧ 1 ≤ s.mb ∧ s.mb ≤ 1099511627776) ∧ (0 ≤ s.n0 ∧ 0 ≤ s.n1 ∧ s.n0 + s.n1 ≤ k) ∧ (0 ≤ s.c0 ∧ 0 ≤ s.c1 ∧ s.c0 + s.c1 ≤ k * 1099511627776) ∧ (s.n0 = 0 → s.c0 = 0) ∧ (s.n1 = 0 → s.c1 = 0)
theorem Inv.ok {k : Int} {s : S} (h : Inv k s) (hk : k ≤ 61) : s.ok := by
  obtain ⟨⟨a1, a2, a3, a4⟩, ⟨b1, b2, b3⟩, ⟨c1, c2, c3⟩, -, -⟩ := h
  have : k * 1099511627776 ≤ 61 * 1099511627776 := by omega
  exact ⟨a1, a2, a3, a4, b1, by omega, c1, by omega, b2, by omega, c2, by omega⟩
theorem Inv.mono {k : Int} {s : S} (h : Inv k s) : Inv (k + 1) s := by
  obtain ⟨a, ⟨b1, b2, b3⟩, ⟨c1, c2, c3⟩, d, e⟩ := h
  exact ⟨a, ⟨b1, b2, by omega⟩, ⟨c1, c2, by omega⟩, d, e⟩
theorem hasB_spec {n t c : Int} (h : hasB n t c = true) (hn : 0 ≤ n) (hz : n = 0 → t = 0) : 1 ≤ n ∧ c ≤ t ∧ (n = 1 → t = c) := by
  unfold hasB at h
  simp only [Bool.and_eq_true, Bool.or_eq_true, bne_iff_ne, decide_eq_true_eq, beq_iff_eq] at h
  obtain ⟨h1, h2, h3⟩ := h
  refine ⟨?_, h2, fun e => ?_⟩
  · rcases h1 with h1 | h1
    · omega
    · by_cases hn0 : n = 0
      · exact absurd (hz hn0) h1
      · omega
  · rcases h3 with h3 | h3
    · omega
    · exact h3
theorem fair_spec {g c : Int} (h : fairI g c = true) : (g = 0 ∨ g = 1) ∧ 0 ≤ c ∧ c ≤ 1099511627776 := by
  unfold fairI at h
  simp only [Bool.and_eq_true, decide_eq_true_eq] at h
  omega
def Step (b : Nat) (s : S) (k : Int) (w : World) (e : Ending) (w' : World) : Prop := ∃ (r : Int) (s' : S), e = .returned (.int .i64 r) ∧ Inv (k + 1) s' ∧ Bud w' b s' ∧ But b w w'
theorem same_step {b : Nat} {s : S} {k : Int} (hi : Inv k s) {w : World} (hb : Bud w b s) (r : Int) {e : Ending} {w' : World} (h : e = .returned (.int .i64 r) ∧ w = w') : Step b s k w e w' := by
  obtain ⟨rfl, rfl⟩ := h
  exact ⟨r, s, rfl, hi.mono, hb, But.refl _ _⟩
theorem below_step {b : Nat} {s : S} {k : Int} (hi : Inv k s) {w : World} (hb : Bud w b s) (r : Int) {e : Ending} {w' : World} (h : e = .returned (.int .i64 r) ∧ Below w.heap.size w w') : Step b s k w e w' := by
  obtain ⟨rfl, h2⟩ := h
  exact ⟨r, s, rfl, hi.mono, hb.below h2, But.of h2⟩
theorem add_step (b : Nat) (s : S) (k g c : Int) (hi : Inv k s) (k0 : 0 ≤ k) (hk : k ≤ 60) (w : World) (hb : Bud w b s) : Calls Try.prog 15 #[.pointer (some ⟨b, 0, none⟩), .int .i64 g, .int .i64 c] w (Step b s k w) := by
  have hs := hi.ok (by omega)
  cases hf : fairI g c
  · exact (Add_bad b s hs g c hf w hb).mono fun e w' h => same_step hi hb 2 h
  · obtain ⟨hg, c0, c1⟩ := fair_spec hf
    obtain ⟨mc, mb, n0, t0, n1, t1⟩ := s
    have hi' := hi
    obtain ⟨a, ⟨b1, b2, b3⟩, ⟨d1, d2, d3⟩, e1, e2⟩ := hi
    simp only at b1 b2 b3 d1 d2 d3 e1 e2
    rcases hg with rfl | rfl
    · exact (Add_ok0 b mc mb n0 t0 n1 t1 hs c c0 c1 ⟨by omega, by omega⟩ w hb).mono fun e w' ⟨h1, h2, h3⟩ => ⟨0, ⟨mc, mb, n0 + 1, t0 + c, n1, t1⟩, h1, ⟨a, ⟨by show 0 ≤ n0 + 1; omega, b2, by show n0 + 1 + n1 ≤ k + 1; omega⟩, ⟨by show 0 ≤ t0 + c; omega, d2, by show t0 + c + t1 ≤ _; omega⟩, fun h => by exfalso; have h : n0 + 1 = 0 := h; omega, e2⟩, h2, h3⟩
    · exact (Add_ok1 b mc mb n0 t0 n1 t1 hs c c0 c1 ⟨by omega, by omega⟩ w hb).mono fun e w' ⟨h1, h2, h3⟩ => ⟨0, ⟨mc, mb, n0, t0, n1 + 1, t1 + c⟩, h1, ⟨a, ⟨b1, by show 0 ≤ n1 + 1; omega, by show n0 + (n1 + 1) ≤ k + 1; omega⟩, ⟨d1, by show 0 ≤ t1 + c; omega, by show t0 + (t1 + c) ≤ _; omega⟩, e1, fun h => by exfalso; have h : n1 + 1 = 0 := h; omega⟩, h2, h3⟩
theorem remove_step (b : Nat) (s : S) (k g c : Int) (hi : Inv k s) (k0 : 0 ≤ k) (hk : k ≤ 60) (w : World) (hb : Bud w b s) : Calls Try.prog 19 #[.pointer (some ⟨b, 0, none⟩), .int .i64 g, .int .i64 c] w (Step b s k w) := by
  have hs := hi.ok (by omega)
  cases hf : fairI g c
  · exact (Remove_bad b s hs g c hf w hb).mono fun e w' h => same_step hi hb 2 h
  · obtain ⟨hg, c0, c1⟩ := fair_spec hf
    obtain ⟨mc, mb, n0, t0, n1, t1⟩ := s
    have hi' := hi
    obtain ⟨a, ⟨b1, b2, b3⟩, ⟨d1, d2, d3⟩, e1, e2⟩ := hi
    simp only at b1 b2 b3 d1 d2 d3 e1 e2
    rcases hg with rfl | rfl
    · cases hh : hasB n0 t0 c
      · exact (Remove_none0 b mc mb n0 t0 n1 t1 hs c c0 c1 hh w hb).mono fun e w' h => below_step hi' hb 9 h
      · obtain ⟨f1, f2, f3⟩ := hasB_spec hh b1 e1
        exact (Remove_ok0 b mc mb n0 t0 n1 t1 hs c c0 c1 hh w hb).mono fun e w' ⟨h1, h2, h3⟩ => ⟨0, ⟨mc, mb, n0 - 1, t0 - c, n1, t1⟩, h1, ⟨a, ⟨by show 0 ≤ n0 - 1; omega, b2, by show n0 - 1 + n1 ≤ k + 1; omega⟩, ⟨by show 0 ≤ t0 - c; omega, d2, by show t0 - c + t1 ≤ _; omega⟩, fun h => by have h : n0 - 1 = 0 := h; have := f3 (by omega); show t0 - c = 0; omega, e2⟩, h2, h3⟩
    · cases hh : hasB n1 t1 c
      · exact (Remove_none1 b mc mb n0 t0 n1 t1 hs c c0 c1 hh w hb).mono fun e w' h => below_step hi' hb 9 h
      · obtain ⟨f1, f2, f3⟩ := hasB_spec hh b2 e2
        exact (Remove_ok1 b mc mb n0 t0 n1 t1 hs c c0 c1 hh w hb).mono fun e w' ⟨h1, h2, h3⟩ => ⟨0, ⟨mc, mb, n0, t0, n1 - 1, t1 - c⟩, h1, ⟨a, ⟨b1, by show 0 ≤ n1 - 1; omega, by show n0 + (n1 - 1) ≤ k + 1; omega⟩, ⟨d1, by show 0 ≤ t1 - c; omega, by show t0 + (t1 - c) ≤ _; omega⟩, e1, fun h => by have h : n1 - 1 = 0 := h; have := f3 (by omega); show t1 - c = 0; omega⟩, h2, h3⟩
/-- .. and the totals stay -/
def Step2 (b : Nat) (s : S) (k : Int) (w : World) (e : Ending) (w' : World) : Prop := ∃ (r : Int) (s' : S), e = .returned (.int .i64 r) ∧ Inv (k + 1) s' ∧ Bud w' b s' ∧ But b w w' ∧ s'.n0 + s'.n1 = s.n0 + s.n1 ∧ s'.c0 + s'.c1 = s.c0 + s.c1
theorem move_step (b : Nat) (s : S) (k g c : Int) (hi : Inv k s) (k0 : 0 ≤ k) (hk : k ≤ 60) (w : World) (hb : Bud w b s) : Calls Try.prog 16 #[.pointer (some ⟨b, 0, none⟩), .int .i64 g, .int .i64 c] w (Step2 b s k w) := by
  have hs := hi.ok (by omega)
  cases hf : fairI g c
  · exact (Move_bad b s hs g c hf w hb).mono fun e w' ⟨h1, h2⟩ => ⟨2, s, h1, hi.mono, by rw [← h2]; exact hb, by rw [← h2]; exact But.refl _ _, rfl, rfl⟩
  · obtain ⟨hg, c0, c1⟩ := fair_spec hf
    obtain ⟨mc, mb, n0, t0, n1, t1⟩ := s
    have hi' := hi
    obtain ⟨a, ⟨b1, b2, b3⟩, ⟨d1, d2, d3⟩, e1, e2⟩ := hi
    simp only at b1 b2 b3 d1 d2 d3 e1 e2
    rcases hg with rfl | rfl
    · cases hh : hasB n0 t0 c
      · exact (Move_none0 b mc mb n0 t0 n1 t1 hs c c0 c1 ⟨by omega, by omega⟩ hh w hb).mono fun e w' ⟨h1, h2⟩ => ⟨9, _, h1, hi'.mono, hb.below h2, But.of h2, rfl, rfl⟩
      · obtain ⟨f1, f2, f3⟩ := hasB_spec hh b1 e1
        exact (Move_ok0 b mc mb n0 t0 n1 t1 hs c c0 c1 ⟨by omega, by omega⟩ hh w hb).mono fun e w' ⟨h1, h2, h3⟩ => ⟨0, ⟨mc, mb, n0 - 1, t0 - c, n1 + 1, t1 + c⟩, h1, ⟨a, ⟨by show 0 ≤ n0 - 1; omega, by show 0 ≤ n1 + 1; omega, by show n0 - 1 + (n1 + 1) ≤ k + 1; omega⟩, ⟨by show 0 ≤ t0 - c; omega, by show 0 ≤ t1 + c; omega, by show t0 - c + (t1 + c) ≤ _; omega⟩, fun h => by have h : n0 - 1 = 0 := h; have := f3 (by omega); show t0 - c = 0; omega, fun h => by exfalso; have h : n1 + 1 = 0 := h; omega⟩, h2, h3, by show n0 - 1 + (n1 + 1) = n0 + n1; omega, by show t0 - c + (t1 + c) = t0 + t1; omega⟩
    · cases hh : hasB n1 t1 c
      · exact (Move_none1 b mc mb n0 t0 n1 t1 hs c c0 c1 ⟨by omega, by omega⟩ hh w hb).mono fun e w' ⟨h1, h2⟩ => ⟨9, _, h1, hi'.mono, hb.below h2, But.of h2, rfl, rfl⟩
      · obtain ⟨f1, f2, f3⟩ := hasB_spec hh b2 e2
        exact (Move_ok1 b mc mb n0 t0 n1 t1 hs c c0 c1 ⟨by omega, by omega⟩ hh w hb).mono fun e w' ⟨h1, h2, h3⟩ => ⟨0, ⟨mc, mb, n0 + 1, t0 + c, n1 - 1, t1 - c⟩, h1, ⟨a, ⟨by show 0 ≤ n0 + 1; omega, by show 0 ≤ n1 - 1; omega, by show n0 + 1 + (n1 - 1) ≤ k + 1; omega⟩, ⟨by show 0 ≤ t0 + c; omega, by show 0 ≤ t1 - c; omega, by show t0 + c + (t1 - c) ≤ _; omega⟩, fun h => by exfalso; have h : n0 + 1 = 0 := h; omega, fun h => by have h : n1 - 1 = 0 := h; have := f3 (by omega); show t1 - c = 0; omega⟩, h2, h3, by show n0 + 1 + (n1 - 1) = n0 + n1; omega, by show t0 + c + (t1 - c) = t0 + t1; omega⟩
theorem change_step (b : Nat) (s : S) (k g c d : Int) (hi : Inv k s) (k0 : 0 ≤ k) (hk : k ≤ 60) (w : World) (hb : Bud w b s) : Calls Try.prog 17 #[.pointer (some ⟨b, 0, none⟩), .int .i64 g, .int .i64 c, .int .i64 d] w (Step b s k w) := by
  have hs := hi.ok (by omega)
  by_cases hf : fairI g c = false ∨ fairI g d = false
  · exact (Change_bad b s hs g c d hf w hb).mono fun e w' h => same_step hi hb 2 h
  · obtain ⟨hg, c0, c1⟩ := fair_spec (g := g) (c := c) (by cases h : fairI g c <;> simp_all)
    obtain ⟨-, x0, x1⟩ := fair_spec (g := g) (c := d) (by cases h : fairI g d <;> simp_all)
    clear hf
    obtain ⟨mc, mb, n0, t0, n1, t1⟩ := s
    have hi' := hi
    obtain ⟨a, ⟨b1, b2, b3⟩, ⟨d1, d2, d3⟩, e1, e2⟩ := hi
    simp only at b1 b2 b3 d1 d2 d3 e1 e2
    rcases hg with rfl | rfl
    · cases hh : hasB n0 t0 c
      · exact (Change_none0 b mc mb n0 t0 n1 t1 hs c c0 c1 d x0 x1 ⟨by omega, by omega⟩ hh w hb).mono fun e w' h => below_step hi' hb 9 h
      · obtain ⟨f1, f2, f3⟩ := hasB_spec hh b1 e1
        exact (Change_ok0 b mc mb n0 t0 n1 t1 hs c c0 c1 d x0 x1 ⟨by omega, by omega⟩ hh w hb).mono fun e w' ⟨h1, h2, h3⟩ => ⟨0, ⟨mc, mb, n0, t0 + (d - c), n1, t1⟩, h1, ⟨a, ⟨b1, b2, by show n0 + n1 ≤ k + 1; omega⟩, ⟨by show 0 ≤ t0 + (d - c); omega, d2, by show t0 + (d - c) + t1 ≤ _; omega⟩, fun h => by exfalso; have h : n0 = 0 := h; omega, e2⟩, h2, h3⟩
    · cases hh : hasB n1 t1 c
      · exact (Change_none1 b mc mb n0 t0 n1 t1 hs c c0 c1 d x0 x1 ⟨by omega, by omega⟩ hh w hb).mono fun e w' h => below_step hi' hb 9 h
      · obtain ⟨f1, f2, f3⟩ := hasB_spec hh b2 e2
        exact (Change_ok1 b mc mb n0 t0 n1 t1 hs c c0 c1 d x0 x1 ⟨by omega, by omega⟩ hh w hb).mono fun e w' ⟨h1, h2, h3⟩ => ⟨0, ⟨mc, mb, n0, t0, n1, t1 + (d - c)⟩, h1, ⟨a, ⟨b1, b2, by show n0 + n1 ≤ k + 1; omega⟩, ⟨d1, by show 0 ≤ t1 + (d - c); omega, by show t0 + (t1 + (d - c)) ≤ _; omega⟩, e1, fun h => by exfalso; have h : n1 = 0 := h; omega⟩, h2, h3⟩
theorem lim_spec {a b : Int} (h : okLim a b = true) : 1 ≤ a ∧ a ≤ 1048576 ∧ 1 ≤ b ∧ b ≤ 1099511627776 := by
  unfold okLim at h
  simpa using h
theorem set_step (b : Nat) (s : S) (k x y : Int) (hi : Inv k s) (k0 : 0 ≤ k) (hk : k ≤ 60) (w : World) (hb : Bud w b s) : Calls Try.prog 20 #[.pointer (some ⟨b, 0, none⟩), .int .i64 x, .int .i64 y] w (Step b s k w) := by
  have hs := hi.ok (by omega)
  cases hf : okLim x y
  · exact (Set_bad b s hs x y hf w hb).mono fun e w' h => same_step hi hb 2 h
  · have hl := lim_spec hf
    obtain ⟨mc, mb, n0, t0, n1, t1⟩ := s
    have hm := hi.mono
    obtain ⟨a, h2, h3, h4, h5⟩ := hm
    exact (Set_ok b mc mb n0 t0 n1 t1 hs x y hf w hb).mono fun e w' ⟨k1, k2, k3⟩ => ⟨0, ⟨x, y, n0, t0, n1, t1⟩, k1, ⟨hl, h2, h3, h4, h5⟩, k2, k3⟩
end Go.Proofs.Ytjlfjgmkbjfbcaa.Bud
