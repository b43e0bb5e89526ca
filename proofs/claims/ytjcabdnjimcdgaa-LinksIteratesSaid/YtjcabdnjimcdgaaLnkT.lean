/-
  Links (layer 14): the reference's field: Head, Place.
-/
import Derived.Test.YtjcabdnjimcdgaaLnkQ
set_option linter.unusedVariables false
set_option linter.unusedSimpArgs false
namespace Go.Proofs.Ytjcabdnjimcdgaa.Lnk
open Go Go.RowKit Kit
/-- the reference's lists -/
def Rf (w : World) (p : Option Addr) (Ls : List (List Nat)) : Prop := ∀ (h : Nat) (l : List Nat), Ls[h]? = some l → ∃ y, p = some y ∧ y.block < w.heap.size ∧ ∃ ph ch, w.cell? (y.add h) = some (.slice ph l.length ch) ∧ Ru w ph (ints l)
theorem Rf.below {w w' : World} {p : Option Addr} {Ls : List (List Nat)} (h : Rf w p Ls) (hb : Below w.heap.size w w') : Rf w' p Ls := fun i l hl => by
  obtain ⟨y, h0, h1, ph, ch, h2, h3⟩ := h i l hl
  exact ⟨y, h0, Nat.lt_of_lt_of_le h1 hb.size, ph, ch, by rw [hb.cell (by rw [add_block]; exact h1)]; exact h2, h3.below hb⟩
/-- the value of a reference's field -/
def fv (N : Nat) (p : Option Addr) (H cp : Nat) : Value := .agg #[.int .i64 (N : Int), .slice p H cp]
theorem two_of {w : World} {b : Nat} {u v : Value} {t : TypeId} {f : Nat × Nat} (h : w.heap[b]? = some (.cells #[u, v] t f)) : w.cell? ⟨b, 0, none⟩ = some u ∧ w.cell? ⟨b, 1, none⟩ = some v := ⟨by simp [World.cell?, h], by simp [World.cell?, h]⟩
theorem ints_at {l : List Nat} {i x : Nat} (h : l[i]? = some x) : (ints l)[i]? = some (x : Int) := by
  unfold ints
  rw [List.getElem?_map, h]
  rfl
/-- where a node is -/
def PlR (e : Ending) (Ls : List (List Nat)) (n : Nat) : Prop := (∃ h i l, Ls[h]? = some l ∧ l[i]? = some n ∧ e = .returned (.tuple #[.int .i64 ((h : Nat) : Int), .int .i64 ((i : Nat) : Int)])) ∨ (Free Ls n ∧ e = .returned (.tuple #[.int .i64 (-1), .int .i64 (-1)]))
set_option maxRecDepth 100000 in
theorem rhead_any (w : World) (N : Nat) (p : Option Addr) (H cp : Nat) (h : Int) :
    Calls Try.prog 85 #[fv N p H cp, .int .i64 h] w fun e w' => e = .returned (.bool (decide (0 ≤ h ∧ h < (H : Int)))) ∧ Below w.heap.size w w' := by
  unfold fv
  by_cases h0 : 0 ≤ h
  · by_cases h1 : h < (H : Int)
    · go_enter Try.func85, Try.ntmps85
      go_wp2_with fail
      go_ret
      exact ⟨by simp [h0, h1], by go_grown⟩
    · go_enter Try.func85, Try.ntmps85
      go_wp2_with fail
      go_ret
      exact ⟨by simp [h0, h1], by go_grown⟩
  · go_enter Try.func85, Try.ntmps85
    go_wp2_with fail
    go_ret
    exact ⟨by simp; omega, by go_grown⟩
set_option maxRecDepth 100000 in
set_option maxHeartbeats 1000000 in
theorem rplace_any {w : World} {N H cp n : Nat} {p : Option Addr} {Ls : List (List Nat)} (hH : Ls.length = H) (hH2 : H ≤ 4096) (hL : ∀ (h : Nat) (l : List Nat), Ls[h]? = some l → l.length ≤ 4194304) (R : Rf w p Ls) :
    Calls Try.prog 87 #[fv N p H cp, .int .u32 (n : Int)] w fun e w' => PlR e Ls n ∧ Below w.heap.size w w' := by
  have HH := Lib.hid hH
  have HL := Lib.hid hL
  unfold fv
  have HR := Lib.hid (R.below (box_below w #[.int .i64 (N : Int), .slice p H cp] 24))
  have HB := Lib.hid (box_below w #[.int .i64 (N : Int), .slice p H cp] 24)
  have hb0 : (w.alloc (.cells #[.int .i64 (N : Int), .slice p H cp] 24)).heap[w.heap.size]? = some (.cells #[.int .i64 (N : Int), .slice p H cp] 24 (0, 0)) := (MapKept.heap_alloc w _).1
  have x0 : (w.alloc (.cells #[.int .i64 (N : Int), .slice p H cp] 24)).cell? ⟨w.heap.size, 0, none⟩ = some (.int .i64 (N : Int)) := (two_of hb0).1
  have x1 : (w.alloc (.cells #[.int .i64 (N : Int), .slice p H cp] 24)).cell? ⟨w.heap.size, 1, none⟩ = some (.slice p H cp) := (two_of hb0).2
  clear hH hL R hb0
  go_enter Try.func87, Try.ntmps87
  go_wp2_with fail
  obtain ⟨V, hV⟩ : ∃ V, w.alloc (.cells #[.int .i64 (N : Int), .slice p H cp] 24) = V := ⟨_, rfl⟩
  rw [hV] at HR HB x0 x1 ⊢
  clear hV
  go_loopw [6] (fun v wr => ∃ j : Nat, j ≤ H ∧ v = .int .i64 (j : Int) ∧ wr = V ∧ ∀ (h : Nat) (l : List Nat), h < j → Ls[h]? = some l → n ∉ l) (fun v _ => H - (intOf v).toNat)
  case atStart => exact ⟨0, by omega, rfl, rfl, fun h l hh => by omega⟩
  case round =>
    obtain ⟨j, hj, rfl, rfl, hno⟩ := hrel
    have NO := Lib.hid hno
    clear hno
    by_cases hjH : j = H
    · subst hjH
      go_wp2_with fail
      go_ret2
      exact ⟨.inr ⟨fun h l hl => NO.out h l (by have := (List.getElem?_eq_some_iff.1 hl).1; have := HH.out; omega) hl, rfl⟩, HB.out⟩
    · have hlt : j < H := by omega
      have i1 : (j : Int) < (H : Int) := by omega
      have i0 : (0 : Int) ≤ (j : Int) := by omega
      obtain ⟨l, hl⟩ : ∃ l, Ls[j]? = some l := ⟨Ls[j]'(by rw [HH.out]; omega), List.getElem?_eq_getElem _⟩
      obtain ⟨y, rfl, _, ph, ch, e0, ru⟩ := HR.out j l hl
      have hll := HL.out j l hl
      obtain ⟨m, hm⟩ : ∃ m, l.length = m := ⟨_, rfl⟩
      rw [hm] at e0 hll
      have HM := Lib.hid hm
      have RU := Lib.hid ru
      have HLJ := Lib.hid hl
      clear hm ru hl
      go_wp2_with fail
      go_loopw [7] (fun v wr' => ∃ i : Nat, i ≤ m ∧ v = .int .i64 (i : Int) ∧ wr' = wr ∧ ∀ (k : Nat) (x : Nat), k < i → l[k]? = some x → x ≠ n) (fun v _ => m - (intOf v).toNat)
      case atStart => exact ⟨0, by omega, rfl, rfl, fun k x hk => by omega⟩
      case round =>
        obtain ⟨i, hi, rfl, rfl, hni⟩ := hrel
        have NI := Lib.hid hni
        clear hni
        by_cases him : i = m
        · subst him
          go_wp2_with fail
          go_roundw
          case rel =>
            refine ⟨j + 1, by omega, by go_num, by trivial, fun h l' hh hl' => ?_⟩
            rcases Nat.lt_or_ge h j with h1 | h1
            · exact NO.out h l' h1 hl'
            · obtain rfl : h = j := by omega
              rw [HLJ.out] at hl'
              cases hl'
              intro hmem
              obtain ⟨k, hk⟩ := List.mem_iff_getElem?.1 hmem
              exact NI.out k n (by have := (List.getElem?_eq_some_iff.1 hk).1; have := HM.out; omega) hk rfl
          case measure => simp [intOf]; omega
        · have hlt2 : i < m := by omega
          have j1 : (i : Int) < (m : Int) := by omega
          have j0 : (0 : Int) ≤ (i : Int) := by omega
          obtain ⟨x, hx⟩ : ∃ x, l[i]? = some x := ⟨l[i]'(by rw [HM.out]; omega), List.getElem?_eq_getElem _⟩
          obtain ⟨z, rfl, _, e1⟩ := RU.out i _ (ints_at hx)
          have HX := Lib.hid hx
          clear hx
          by_cases hxn : x = n
          · subst hxn
            go_wp2_with fail
            go_ret2
            exact ⟨.inl ⟨j, i, l, HLJ.out, HX.out, rfl⟩, HB.out⟩
          · have hb : ((x : Int) == (n : Int)) = false := by rw [beq_eq_false_iff_ne]; omega
            have HNE := Lib.hid hxn
            clear hxn
            go_wp2_with fail
            go_roundw
            case rel =>
              refine ⟨i + 1, by omega, by go_num, by trivial, fun k x' hk hx' => ?_⟩
              rcases Nat.lt_or_ge k i with h1 | h1
              · exact NI.out k x' h1 hx'
              · obtain rfl : k = i := by omega
                rw [HX.out] at hx'
                cases hx'
                exact HNE.out
            case measure => simp [intOf]; omega
end Go.Proofs.Ytjcabdnjimcdgaa.Lnk
