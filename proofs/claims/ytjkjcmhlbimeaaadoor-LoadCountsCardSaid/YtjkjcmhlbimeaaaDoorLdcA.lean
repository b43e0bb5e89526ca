/-
  Counts of package load (layer 38): lists that are read; the comparison.
-/
import Derived.Test.YtjkjcmhlbimeaaaDoorProg
import Derived.Test.YtjkjcmhlbimeaaaDoorRow
import Derived.Test.YtjkjcmhlbimeaaaDoorEvX
import Derived.BigQuiet
import Derived.Deep.QuietTactic
import Derived.Deep.RegionHeld3
import Derived.StillTailTactics
set_option linter.unusedVariables false
set_option linter.unusedSimpArgs false
namespace Go.Proofs.YtjkjcmhlbimeaaaDoor.Ldc
open Go Go.RowKit Kit
theorem add_block (x : Addr) (m : Nat) : (x.add m).block = x.block := by unfold Addr.add; split <;> rfl
theorem add2 (g j : Nat) : (⟨g, 0, none⟩ : Addr).add j = ⟨g, j, none⟩ := by unfold Addr.add; split <;> simp_all
theorem cell_lt {w : World} {x : Addr} {v : Value} (h : w.cell? x = some v) : x.block < w.heap.size := by
  rcases Nat.lt_or_ge x.block w.heap.size with h' | h'
  · exact h'
  · simp [World.cell?, Array.getElem?_eq_none h'] at h
/-- a list of keys that is read -/
def Ru (w : World) (a : Option Addr) (l : List Int) : Prop := ∀ i x, l[i]? = some x → ∃ y, a = some y ∧ y.block < w.heap.size ∧ w.cell? (y.add i) = some (.int .u32 x) ∧ 0 ≤ x ∧ x < 4294967296
theorem Ru.below {w w' : World} {a : Option Addr} {l : List Int} (h : Ru w a l) (hb : Below w.heap.size w w') : Ru w' a l := fun i x hx => by
  obtain ⟨y, h0, h1, h2, h3⟩ := h i x hx
  exact ⟨y, h0, Nat.lt_of_lt_of_le h1 hb.size, by rw [hb.cell (by rw [add_block]; exact h1)]; exact h2, h3⟩
theorem Ru.but {w w' : World} {a : Option Addr} {l : List Int} {b : Nat} (h : Ru w a l) (hb : But b w w') (hne : ∀ y, a = some y → y.block ≠ b) : Ru w' a l := fun i x hx => by
  obtain ⟨y, h0, h1, h2, h3⟩ := h i x hx
  refine ⟨y, h0, Nat.lt_of_lt_of_le h1 hb.size, ?_, h3⟩
  have : w'.cell? (y.add i) = w.cell? (y.add i) := by
    unfold World.cell?
    rw [hb.block _ (by rw [add_block]; exact h1) (by rw [add_block]; exact hne y h0)]
  rw [this]; exact h2
theorem ru_of {w : World} {a : Option Addr} {len cap : Nat} (h : (a = none ∧ len = 0) ∨ ∃ x, a = some x ∧ len ≤ cap ∧ cap ≤ maxLen ∧ ∀ i, i < len → ∃ z : Int, w.cell? (x.add i) = some (.int .u32 z) ∧ (Lit.int .u32 z).wf = true) : ∃ l : List Int, l.length = len ∧ Ru w a l ∧ (a = none → len = 0) := by
  rcases h with ⟨rfl, rfl⟩ | ⟨x, rfl, hc1, hc2, h⟩
  · exact ⟨[], rfl, fun i x hx => by simp at hx, fun _ => rfl⟩
  · have : ∃ l : List Int, l.length = len ∧ ∀ i, i < len → ∃ z, l[i]? = some z ∧ w.cell? (x.add i) = some (.int .u32 z) ∧ (Lit.int .u32 z).wf = true := by
      clear hc1 hc2 cap
      induction len with
      | zero => exact ⟨[], rfl, fun i hi => by omega⟩
      | succ n ih =>
        obtain ⟨l, h1, h2⟩ := ih (fun i hi => h i (by omega))
        obtain ⟨z, hz⟩ := h n (by omega)
        refine ⟨l ++ [z], by simp [h1], fun i hi => ?_⟩
        by_cases hin : i = n
        · subst hin; exact ⟨z, by rw [← h1]; simp, hz⟩
        · obtain ⟨z', e1, e2⟩ := h2 i (by omega)
          exact ⟨z', by rw [List.getElem?_append_left (by omega)]; exact e1, e2⟩
    obtain ⟨l, h1, h2⟩ := this
    refine ⟨l, h1, fun i z hz => ?_, fun h => by cases h⟩
    obtain ⟨z', e1, e2, e3⟩ := h2 i (by have := (List.getElem?_eq_some_iff.1 hz).1; omega)
    rw [e1] at hz
    cases hz
    have b := Ev.wf_u32 e3
    have := cell_lt e2
    rw [add_block] at this
    exact ⟨x, rfl, this, e2, b.1, by omega⟩
set_option maxRecDepth 100000 in
theorem ints_any {W : World} {a b n ca cb : Nat} {f : Nat → Int} {t1 t2 : TypeId} (ha : Row W a n t1 (fun i => .int .i64 (f i))) (hb : Row W b n t2 (fun i => .int .i64 (f i))) (hn : n ≤ 16384) :
    Calls Tryd.prog 20 #[.slice (some ⟨a, 0, none⟩) n ca, .slice (some ⟨b, 0, none⟩) n cb] W fun e w' => e = .returned (.bool true) ∧ Below W.heap.size W w' := by
  have HA := Lib.hid ha
  have HB := Lib.hid hb
  clear ha hb
  go_enter Tryd.func20, Tryd.ntmps20
  go_wp2_with fail
  go_loopw [5] (fun i wr => ∃ j : Nat, j ≤ n ∧ i = .int .i64 j ∧ Below W.heap.size W wr) (fun i _ => n - (intOf i).toNat)
  case atStart => exact ⟨0, by omega, rfl, Below.refl _ _⟩
  case round =>
    obtain ⟨j, hj, rfl, bW⟩ := hrel
    have HBW := Lib.hid bW
    by_cases hlt : j < n
    · have k1 := (HA.out.below bW).cell j hlt
      have k2 := (HB.out.below bW).cell j hlt
      clear bW
      go_wp2_with fail
      go_quiet (fail)
      go_wp2_with fail
      go_roundw
      case rel => exact ⟨j + 1, by omega, by go_num, below_drewN HBW.out _⟩
      case measure => simp [intOf] <;> omega
    · obtain rfl : j = n := by omega
      clear bW
      go_wp2_with fail
      go_ret
      exact ⟨rfl, HBW.out⟩
/-- two lists without a place are equal -/
theorem ints_nil (W : World) : Calls Tryd.prog 20 #[.slice none 0 0, .slice none 0 0] W fun e w' => e = .returned (.bool true) ∧ Below W.heap.size W w' := by
  go_enter Tryd.func20, Tryd.ntmps20
  go_wp2_with fail
  go_loopw [5] (fun i wr => i = .int .i64 0 ∧ Below W.heap.size W wr) (fun _ _ => 0)
  case atStart => exact ⟨rfl, Below.refl _ _⟩
  case round =>
    obtain ⟨rfl, bW⟩ := hrel
    have HBW := Lib.hid bW
    clear bW
    go_wp2_with fail
    go_ret
    exact ⟨rfl, HBW.out⟩
theorem within_any (n lo hi : Int) (w : World) : Calls Tryd.prog 43 #[.int .i64 n, .int .i64 lo, .int .i64 hi] w fun e w' => e = .returned (.bool (decide (lo ≤ n ∧ n ≤ hi))) ∧ w = w' := by
  by_cases h1 : lo ≤ n <;> by_cases h2 : n ≤ hi
  all_goals (
    go_enter Tryd.func43, Tryd.ntmps43
    go_wp2_with fail
    go_ret
    exact ⟨ret_bool (by simp <;> omega), rfl⟩)
/-- how often a key is among the first ones -/
def ct (l : List Int) (j k : Nat) : Nat := (l.take j).count (k : Int)
theorem ct_succ {l : List Int} {j x : Nat} (h : l[j]? = some (x : Int)) (k : Nat) : ct l (j + 1) k = if k = x then ct l j k + 1 else ct l j k := by
  unfold ct
  rw [List.take_add_one, h, List.count_append, Option.toList_some]
  by_cases hk : k = x
  · subst hk; simp
  · rw [if_neg hk]
    have : List.count (k : Int) [(x : Int)] = 0 := List.count_eq_zero.2 (by intro hm; have := List.mem_singleton.1 hm; omega)
    omega
theorem ct_le (l : List Int) (j k : Nat) : ct l j k ≤ j := Nat.le_trans (List.count_le_length ..) (by simp; omega)
end Go.Proofs.YtjkjcmhlbimeaaaDoor.Ldc
