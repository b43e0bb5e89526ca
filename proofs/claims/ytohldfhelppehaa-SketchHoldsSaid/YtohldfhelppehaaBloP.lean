/-
  Walks over the reference of layer 34: ones, words, comparisons.
-/
import Derived.Test.YtohldfhelppehaaBloS
import Derived.BigQuiet
import Derived.Deep.QuietTactic
set_option linter.unusedVariables false
set_option linter.unusedSimpArgs false
namespace Go.Proofs.Ytohldfhelppehaa.Blo
open Go.RowKit Kit Hash
abbrev rf (hs sd : Int) (r m c : Nat) : Value := .agg #[.int .i64 hs, .int .u64 sd, .slice (some ⟨r, 0, none⟩) m c]
abbrev rfO (hs sd : Int) (r m c : Nat) : Obj := .cells #[.int .i64 hs, .int .u64 sd, .slice (some ⟨r, 0, none⟩) m c] 25
/-- block r holds the bits of s -/
def Rr (W : World) (r m : Nat) (s : Nat → Bool) : Prop := Row W r m 4 (fun i => .bool (s i))
theorem rf_cells {W wr : World} {hs sd : Int} {r m c : Nat} (hb : Below (W.heap.size + 1) (W.alloc (rfO hs sd r m c)) wr) :
    wr.cell? ⟨W.heap.size, 0, none⟩ = some (.int .i64 hs) ∧ wr.cell? ⟨W.heap.size, 1, none⟩ = some (.int .u64 sd) ∧ wr.cell? ⟨W.heap.size, 2, none⟩ = some (.slice (some ⟨r, 0, none⟩) m c) := by
  refine ⟨?_, ?_, ?_⟩ <;> (rw [hb.cell (p := ⟨W.heap.size, _, none⟩) (by simp)]; unfold World.cell?; rw [(MapKept.heap_alloc W _).1]; rfl)
theorem rf_below {W wr : World} {hs sd : Int} {r m c : Nat} (hb : Below (W.heap.size + 1) (W.alloc (rfO hs sd r m c)) wr) : Below W.heap.size W wr :=
  (by go_grown : Below W.heap.size W (W.alloc (rfO hs sd r m c))).trans (hb.mono (by omega))
set_option maxRecDepth 100000 in
theorem ronesR {W : World} {r m c : Nat} {hs sd : Int} {s : Nat → Bool} (h : Rr W r m s) (hm : m ≤ 1048576) :
    Calls Try.prog 49 #[rf hs sd r m c] W fun e w' => e = .returned (.int .i64 ((cnt s m : Nat) : Int)) ∧ Below W.heap.size W w' := by
  have HR := Lib.hid h
  have hr := h.lt
  clear h
  go_enter Try.func49, Try.ntmps49
  go_wp2_with fail
  go_loopw [3, 4] (fun u i wr => ∃ j : Nat, j ≤ m ∧ i = .int .i64 j ∧ u = .int .i64 ((cnt s j : Nat) : Int) ∧ Below (W.heap.size + 1) (W.alloc (rfO hs sd r m c)) wr) (fun _ i _ => m - (intOf i).toNat)
  case atStart => exact ⟨0, by omega, rfl, rfl, by simpa [World.size_alloc] using Below.refl _ _⟩
  case round =>
    obtain ⟨j, hj, rfl, rfl, bW⟩ := hrel
    obtain ⟨-, -, c2⟩ := rf_cells bW
    have hc1 := cnt_le s j
    have bW0 := rf_below bW
    by_cases hlt : j < m
    · have kj := (HR.out.below bW0).cell j hlt
      have HB := Lib.hid bW
      clear bW bW0
      have hw : IntKind.i64.wrap (((cnt s j : Nat) : Int) + 1) = ((cnt s j : Nat) : Int) + 1 := IntWalk.i64_in _ (by omega)
      cases hs : s j
      · rw [hs] at kj
        have hc : cnt s (j + 1) = cnt s j := by rw [cnt, hs]; rfl
        have HC := Lib.hid hc
        clear hc
        generalize cnt s j = a at *
        go_wp2_with fail
        go_roundw
        case rel => exact ⟨j + 1, by omega, by go_num, by rw [HC.out], HB.out⟩
        case measure => simp [intOf] <;> omega
      · rw [hs] at kj
        have hc : cnt s (j + 1) = cnt s j + 1 := by rw [cnt, hs]; rfl
        have HC := Lib.hid hc
        clear hc
        generalize cnt s j = a at *
        go_wp2_with fail
        go_roundw
        case rel => exact ⟨j + 1, by omega, by go_num, by rw [HC.out]; simp, HB.out⟩
        case measure => simp [intOf] <;> omega
    · obtain rfl : j = m := by omega
      go_wp2_with fail
      go_ret
      exact ⟨rfl, bW0⟩
set_option maxRecDepth 100000 in
theorem same_any {W : World} {a b n ca cb : Nat} {f : Nat → Int} {t1 t2 : TypeId} (ha : Row W a n t1 (fun i => .int .u64 (f i))) (hb : Row W b n t2 (fun i => .int .u64 (f i))) (hn : n ≤ 16384) :
    Calls Try.prog 29 #[.slice (some ⟨a, 0, none⟩) n ca, .slice (some ⟨b, 0, none⟩) n cb] W fun e w' => e = .returned (.bool true) ∧ Below W.heap.size W w' := by
  have HA := Lib.hid ha
  have HB := Lib.hid hb
  clear ha hb
  go_enter Try.func29, Try.ntmps29
  go_wp2_with fail
  go_loopw [5] (fun i wr => ∃ j : Nat, j ≤ n ∧ i = .int .i64 j ∧ Below W.heap.size W wr) (fun i _ => n - (intOf i).toNat)
  case atStart => exact ⟨0, by omega, rfl, Below.refl _ _⟩
  case round =>
    obtain ⟨j, hj, rfl, bW⟩ := hrel
    have HBW := Lib.hid bW
    by_cases hlt : j < n
    · have k1 := (HA.out.below bW).cell j hlt
      have k2 := (HB.out.below bW).cell j hlt
      clear bW
      go_wp2_with fail
      go_quiet (fail)
      go_wp2_with fail
      go_roundw
      case rel => exact ⟨j + 1, by omega, by go_num, below_drewN HBW.out _⟩
      case measure => simp [intOf] <;> omega
    · obtain rfl : j = n := by omega
      clear bW
      go_wp2_with fail
      go_ret
      exact ⟨rfl, HBW.out⟩
set_option maxRecDepth 100000 in
theorem ints_any {W : World} {a b n ca cb : Nat} {f : Nat → Int} {t1 t2 : TypeId} (ha : Row W a n t1 (fun i => .int .i64 (f i))) (hb : Row W b n t2 (fun i => .int .i64 (f i))) (hn : n ≤ 16384) :
    Calls Try.prog 52 #[.slice (some ⟨a, 0, none⟩) n ca, .slice (some ⟨b, 0, none⟩) n cb] W fun e w' => e = .returned (.bool true) ∧ Below W.heap.size W w' := by
  have HA := Lib.hid ha
  have HB := Lib.hid hb
  clear ha hb
  go_enter Try.func52, Try.ntmps52
  go_wp2_with fail
  go_loopw [5] (fun i wr => ∃ j : Nat, j ≤ n ∧ i = .int .i64 j ∧ Below W.heap.size W wr) (fun i _ => n - (intOf i).toNat)
  case atStart => exact ⟨0, by omega, rfl, Below.refl _ _⟩
  case round =>
    obtain ⟨j, hj, rfl, bW⟩ := hrel
    have HBW := Lib.hid bW
    by_cases hlt : j < n
    · have k1 := (HA.out.below bW).cell j hlt
      have k2 := (HB.out.below bW).cell j hlt
      clear bW
      go_wp2_with fail
      go_quiet (fail)
      go_wp2_with fail
      go_roundw
      case rel => exact ⟨j + 1, by omega, by go_num, below_drewN HBW.out _⟩
      case measure => simp [intOf] <;> omega
    · obtain rfl : j = n := by omega
      clear bW
      go_wp2_with fail
      go_ret
      exact ⟨rfl, HBW.out⟩
end Go.Proofs.Ytohldfhelppehaa.Blo
