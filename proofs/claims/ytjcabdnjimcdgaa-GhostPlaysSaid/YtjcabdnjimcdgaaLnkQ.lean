/-
  Links (layer 14): lists of nodes that are read; Same.
-/
import Derived.Test.YtjcabdnjimcdgaaLnkP
set_option linter.unusedVariables false
set_option linter.unusedSimpArgs false
namespace Go.Proofs.Ytjcabdnjimcdgaa.Lnk
open Go Go.RowKit Kit
theorem add_block (x : Addr) (m : Nat) : (x.add m).block = x.block := by unfold Addr.add; split <;> rfl
theorem add2 (g j : Nat) : (⟨g, 0, none⟩ : Addr).add j = ⟨g, j, none⟩ := by unfold Addr.add; split <;> simp_all
def Is (v : Bool) (p : Prop) : Prop := v = true ↔ p
def Says (e : Ending) (p : Prop) : Prop := ∃ v : Bool, e = .returned (.bool v) ∧ Is v p
theorem Is.no {p : Prop} (h : ¬ p) : Is false p := ⟨fun h1 => (by cases h1), fun h1 => absurd h1 h⟩
theorem Is.yes {p : Prop} (h : p) : Is true p := ⟨fun _ => h, fun _ => rfl⟩
theorem Says.no {p : Prop} {e : Ending} (he : e = .returned (.bool false)) (h : ¬ p) : Says e p := ⟨false, he, Is.no h⟩
theorem Says.yes {p : Prop} {e : Ending} (he : e = .returned (.bool true)) (h : p) : Says e p := ⟨true, he, Is.yes h⟩
/-- a list of slots that is read -/
def Ru (w : World) (a : Option Addr) (l : List Int) : Prop := ∀ i x, l[i]? = some x → ∃ y, a = some y ∧ y.block < w.heap.size ∧ w.cell? (y.add i) = some (.int .u32 x)
theorem Ru.below {w w' : World} {a : Option Addr} {l : List Int} (h : Ru w a l) (hb : Below w.heap.size w w') : Ru w' a l := fun i x hx => by
  obtain ⟨y, h0, h1, h2⟩ := h i x hx
  exact ⟨y, h0, Nat.lt_of_lt_of_le h1 hb.size, by rw [hb.cell (by rw [add_block]; exact h1)]; exact h2⟩
theorem Ru.take {w : World} {a : Option Addr} {l : List Int} (h : Ru w a l) (n : Nat) : Ru w a (l.take n) := fun i x hx => by
  rw [List.getElem?_take] at hx
  split at hx
  · exact h i x hx
  · cases hx
theorem ks_ru {w : World} {B : Nat} {v : Value} {l : List Int} (h : Ks w B v l) : ∃ p c, v = .slice p l.length c ∧ Ru w p l := by
  rcases own_cases h with ⟨rfl, rfl⟩ | ⟨g, cap, rfl, h1, h2, h3, h4, h5⟩
  · exact ⟨none, 0, rfl, fun i x hx => by simp at hx⟩
  · refine ⟨_, cap, rfl, fun i x hx => ?_⟩
    obtain ⟨hi, he⟩ := List.getElem?_eq_some_iff.1 hx
    exact ⟨_, rfl, h2, by rw [add2]; have := h5 i hi; rw [he] at this; exact this⟩
theorem same_to {α : Type} {l1 l2 : List α} {j : Nat} {z : α} (h : l1.take j = l2.take j) (h1 : l1[j]? = some z) (h2 : l2[j]? = some z) : l1.take (j + 1) = l2.take (j + 1) := by
  rw [List.take_add_one, List.take_add_one, h, h1, h2]
theorem same_all {α : Type} {l1 l2 : List α} {n : Nat} (h : l1.take n = l2.take n) (h1 : l1.length = n) (h2 : l2.length = n) : l1 = l2 := by
  rwa [List.take_of_length_le (Nat.le_of_eq h1), List.take_of_length_le (Nat.le_of_eq h2)] at h
theorem other_at {α : Type} {l1 l2 : List α} {j : Nat} {x y : α} (h1 : l1[j]? = some x) (h2 : l2[j]? = some y) (h : ¬ x = y) : ¬ l1 = l2 := fun he => by
  rw [he, h2] at h1; cases h1; exact h rfl
set_option maxRecDepth 100000 in
theorem fsame_any {w : World} {p1 p2 : Option Addr} {n1 n2 c1 c2 : Nat} {l1 l2 : List Int} (h1 : l1.length = n1) (h2 : l2.length = n2) (r1 : Ru w p1 l1) (r2 : Ru w p2 l2) (hn1 : n1 ≤ 1000000) (hn2 : n2 ≤ 1000000) :
    Calls Try.prog 72 #[.slice p1 n1 c1, .slice p2 n2 c2] w fun e w' => Says e (l1 = l2) ∧ Below w.heap.size w w' := by
  by_cases hn : n1 = n2
  · subst hn
    have H1 := Lib.hid h1
    have H2 := Lib.hid h2
    have R1 := Lib.hid (fun w' (hb : Below w.heap.size w w') => r1.below hb)
    have R2 := Lib.hid (fun w' (hb : Below w.heap.size w w') => r2.below hb)
    clear r1 r2 h1 h2 hn2
    go_enter Try.func72, Try.ntmps72
    go_wp2_with fail
    go_loopw [5] (fun i wr => ∃ j : Nat, j ≤ n1 ∧ i = .int .i64 j ∧ l1.take j = l2.take j ∧ Below w.heap.size w wr) (fun i _ => n1 - (intOf i).toNat)
    case atStart => exact ⟨0, by omega, rfl, by simp, Below.refl _ _⟩
    case round =>
      obtain ⟨j, hj, rfl, hT, bW⟩ := hrel
      have BW := Lib.hid bW
      have HT := Lib.hid hT
      clear bW hT
      by_cases hlt : j < n1
      · obtain ⟨z1, hz1⟩ : ∃ p, l1[j]? = some p := ⟨l1[j]'(by rw [H1.out]; omega), List.getElem?_eq_getElem _⟩
        obtain ⟨z2, hz2⟩ : ∃ p, l2[j]? = some p := ⟨l2[j]'(by rw [H2.out]; omega), List.getElem?_eq_getElem _⟩
        obtain ⟨y1, rfl, _, x1⟩ := R1.out _ BW.out j z1 hz1
        obtain ⟨y2, rfl, _, x2⟩ := R2.out _ BW.out j z2 hz2
        have hlt' : (j : Int) < (n1 : Int) := by omega
        have j0 : (0 : Int) ≤ (j : Int) := by omega
        have HS := Lib.hid (fun w' (hb : Below w.heap.size w w') => (show w'.cell? (y1.add j) = some (.int .u32 z1) ∧ w'.cell? (y2.add j) = some (.int .u32 z2) ∧ Below w.heap.size w w' from by
          obtain ⟨y, hy, _, e1⟩ := R1.out _ hb j z1 hz1
          obtain ⟨y', hy', _, e2⟩ := R2.out _ hb j z2 hz2
          cases hy; cases hy'
          exact ⟨e1, e2, hb⟩))
        have Z1 := Lib.hid hz1
        have Z2 := Lib.hid hz2
        clear hz1 hz2
        by_cases hz : z1 = z2
        · subst hz
          go_wp2_with fail
          go_region_held3 (fun w' => w'.cell? (y1.add j) = some (.int .u32 z1) ∧ w'.cell? (y2.add j) = some (.int .u32 z1) ∧ Below w.heap.size w w')
            (first
              | (exact HS.out _ (Below.drew BW.out))
              | assumption
              | fail)
            (first | fail)
          have B2 := Lib.hid (Below.drew BW.out)
          go_wp2_with fail
          go_roundw
          case rel => exact ⟨j + 1, by omega, by go_num, same_to HT.out Z1.out Z2.out, B2.out⟩
          case measure => simp [intOf]; omega
        · have hb : (z1 == z2) = false := by rw [beq_eq_false_iff_ne]; exact hz
          have hb2 : (z1 != z2) = true := by rw [bne_iff_ne]; exact hz
          have HZ := Lib.hid hz
          clear hz
          go_wp2_with fail
          go_region_held3 (fun w' => w'.cell? (y1.add j) = some (.int .u32 z1) ∧ w'.cell? (y2.add j) = some (.int .u32 z2) ∧ Below w.heap.size w w')
            (first
              | (exact HS.out _ (Below.drew BW.out))
              | assumption
              | fail)
            (first | fail)
          have B2 := Lib.hid (Below.drew BW.out)
          go_wp2_with fail
          go_ret
          exact ⟨Says.no rfl (other_at Z1.out Z2.out HZ.out), B2.out⟩
      · obtain rfl : j = n1 := by omega
        go_wp2_with fail
        go_ret
        exact ⟨Says.yes rfl (same_all HT.out H1.out H2.out), BW.out⟩
  · have hb : ((n1 : Int) == (n2 : Int)) = false := by rw [beq_eq_false_iff_ne]; omega
    have hb2 : ((n1 : Int) != (n2 : Int)) = true := by rw [bne_iff_ne]; omega
    have HX := Lib.hid (show ¬ l1 = l2 from fun he => by rw [he] at h1; omega)
    clear r1 r2 h1 h2
    go_enter Try.func72, Try.ntmps72
    go_wp2_with fail
    go_ret
    exact ⟨Says.no rfl HX.out, Below.refl _ _⟩
end Go.Proofs.Ytjcabdnjimcdgaa.Lnk
