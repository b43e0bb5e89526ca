/-
  Walks over the counter of package birth (layer 12).
-/
import Derived.Test.YtmdcgpdpkicbpaaProg
import Derived.Test.YtmdcgpdpkicbpaaKit
import Derived.Deep.RegionWith
import Derived.BigRegion
import Derived.BigQuiet
import Derived.Deep.QuietTactic
set_option linter.unusedVariables false
set_option linter.unusedSimpArgs false
namespace Go.Proofs.Ytmdcgpdpkicbpaa.Bir
open Go.RowKit Kit

/-- block p is a counter that has given all numbers up to g -/
def Cn (W : World) (p : Nat) (g : Int) : Prop := Bx W p 83 (.bool true) (.int .u64 g)
theorem Cn.below {W W' : World} {p : Nat} {g : Int} (h : Cn W p g) (hb : Below W.heap.size W W') : Cn W' p g := Bx.below h hb
theorem Cn.lt {W : World} {p : Nat} {g : Int} (h : Cn W p g) : p < W.heap.size := Bx.lt h
theorem new_any (g : Int) (w : World) :
    Calls Try.prog 56 #[.int .u64 g] w fun e w' => ∃ p, e = .returned (.pointer (some ⟨p, 0, none⟩)) ∧ w.heap.size ≤ p ∧ Cn w' p g ∧ Below w.heap.size w w' := by
  go_enter Try.func56, Try.ntmps56
  go_wp2
  go_ret
  refine ⟨_, rfl, ?_, ?_, by go_grown⟩
  · simp
  · exact Bx.new _ _ _ _
theorem isZero_no (p : Nat) (g : Int) (w : World) (h : Cn w p g) :
    Calls Try.prog 113 #[.pointer (some ⟨p, 0, none⟩)] w fun e w' => e = .returned (.bool false) ∧ w = w' := by
  have k0 := Bx.c0 h
  have k1 := Bx.c1 h
  clear h
  go_enter Try.func113, Try.ntmps113
  go_wp2
  go_ret
  exact ⟨rfl, rfl⟩
theorem last_any (p : Nat) (g : Int) (w : World) (h : Cn w p g) :
    Calls Try.prog 50 #[.pointer (some ⟨p, 0, none⟩)] w fun e w' => e = .returned (.int .u64 g) ∧ w = w' := by
  have k0 := Bx.c0 h
  have k1 := Bx.c1 h
  have HZ := Lib.hid (isZero_no p g w h)
  clear h
  go_enter Try.func50, Try.ntmps50
  go_wp2_with fail
  refine HZ.out.mono ?_
  rintro e w1 ⟨rfl, rfl⟩
  go_wp2_with fail
  go_ret
  exact ⟨rfl, rfl⟩
theorem copy_any (p : Nat) (g : Int) (w : World) (h : Cn w p g) :
    Calls Try.prog 51 #[.pointer (some ⟨p, 0, none⟩)] w fun e w' => ∃ q, e = .returned (.pointer (some ⟨q, 0, none⟩)) ∧ w.heap.size ≤ q ∧ Cn w' q g ∧ Below w.heap.size w w' := by
  have k0 := Bx.c0 h
  have k1 := Bx.c1 h
  have HZ := Lib.hid (isZero_no p g w h)
  clear h
  go_enter Try.func51, Try.ntmps51
  go_wp2_with fail
  refine HZ.out.mono ?_
  rintro e w1 ⟨rfl, rfl⟩
  go_wp2_with fail
  refine (new_any g _).mono ?_
  rintro e w2 ⟨q, rfl, hq, hc, b2⟩
  go_wp2_with fail
  go_ret
  exact ⟨q, rfl, hq, hc, b2⟩
theorem next_full (p : Nat) (w : World) (h : Cn w p 18446744073709551615) :
    Calls Try.prog 57 #[.pointer (some ⟨p, 0, none⟩)] w fun e w' => e = .returned (.tuple #[.int .u64 0, .int .i64 7]) ∧ w = w' := by
  have k0 := Bx.c0 h
  have k1 := Bx.c1 h
  have HZ := Lib.hid (isZero_no p _ w h)
  clear h
  go_enter Try.func57, Try.ntmps57
  go_wp2_with fail
  refine HZ.out.mono ?_
  rintro e w1 ⟨rfl, rfl⟩
  go_wp2_with fail
  go_ret2
  exact ⟨rfl, rfl⟩
theorem next_ok (p : Nat) (g : Int) (w : World) (h : Cn w p g) (g0 : 0 ≤ g) (g1 : g < 18446744073709551615) :
    Calls Try.prog 57 #[.pointer (some ⟨p, 0, none⟩)] w fun e w' => e = .returned (.tuple #[.int .u64 (g + 1), .int .i64 0]) ∧ Cn w' p (g + 1) ∧ Below p w w' := by
  have k0 := Bx.c0 h
  have k1 := Bx.c1 h
  have f0 := Bx.fr h 0
  have f1 := Bx.fr h 1
  have HC := Lib.hid h
  have HZ := Lib.hid (isZero_no p _ w h)
  have hw := IntWalk.u64_in (g + 1) (by omega)
  clear h
  go_enter Try.func57, Try.ntmps57
  go_wp2_with fail
  refine HZ.out.mono ?_
  rintro e w1 ⟨rfl, rfl⟩
  go_wp2_with fail
  go_ret2
  exact ⟨rfl, Bx.set1 HC.out _, (Below.refl p w).setCell (p := ⟨p, 1, none⟩) (Nat.le_refl p) _⟩
theorem rnext_full (w : World) :
    Calls Try.prog 58 #[.int .u64 18446744073709551615] w fun e w' => e = .returned (.tuple #[.int .u64 0, .int .i64 7]) ∧ w = w' := by
  go_enter Try.func58, Try.ntmps58
  go_wp2
  go_ret2
  exact ⟨rfl, rfl⟩
theorem rnext_ok (g : Int) (w : World) (g0 : 0 ≤ g) (g1 : g < 18446744073709551615) :
    Calls Try.prog 58 #[.int .u64 g] w fun e w' => e = .returned (.tuple #[.int .u64 (g + 1), .int .i64 0]) ∧ w = w' := by
  have hw := IntWalk.u64_in (g + 1) (by omega)
  go_enter Try.func58, Try.ntmps58
  go_wp2
  go_ret2
  exact ⟨by simp [hw], rfl⟩
theorem gives_full (p : Nat) (w : World) (h : Cn w p 18446744073709551615) :
    Calls Try.prog 49 #[.pointer (some ⟨p, 0, none⟩), .int .u64 0, .int .i64 7] w fun e w' => e = .returned (.bool true) ∧ w = w' := by
  have HN := Lib.hid (next_full p w h)
  clear h
  go_enter Try.func49, Try.ntmps49
  go_wp2_with fail
  refine HN.out.mono ?_
  rintro e w1 ⟨rfl, rfl⟩
  go_wp2_with fail
  go_ret
  exact ⟨rfl, rfl⟩
theorem gives_ok (p : Nat) (g : Int) (w : World) (h : Cn w p g) (g0 : 0 ≤ g) (g1 : g < 18446744073709551615) :
    Calls Try.prog 49 #[.pointer (some ⟨p, 0, none⟩), .int .u64 (g + 1), .int .i64 0] w fun e w' => e = .returned (.bool true) ∧ Cn w' p (g + 1) ∧ Below p w w' := by
  have HN := Lib.hid (next_ok p g w h g0 g1)
  clear h
  go_enter Try.func49, Try.ntmps49
  go_wp2_with fail
  refine HN.out.mono ?_
  rintro e w1 ⟨rfl, c1, b1⟩
  go_wp2_with fail
  go_ret
  exact ⟨rfl, c1, b1⟩
end Go.Proofs.Ytmdcgpdpkicbpaa.Bir
