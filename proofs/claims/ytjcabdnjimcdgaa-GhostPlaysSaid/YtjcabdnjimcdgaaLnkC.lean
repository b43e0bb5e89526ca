/-
  Links (layer 14): what is asked of a field.
-/
import Derived.Test.YtjcabdnjimcdgaaLnkB
set_option linter.unusedVariables false
set_option linter.unusedSimpArgs false
namespace Go.Proofs.Ytjcabdnjimcdgaa.Lnk
open Go Go.RowKit Kit
section
variable {w : World} {c q r cq cr N : Nat} {F : Fd} {Ls : List (List Nat)}
set_option maxRecDepth 100000 in
theorem isHead_ok (H : Lo w c q r cq cr N F Ls) {h : Nat} (hh : h < Ls.length) :
    Calls Try.prog 156 #[.pointer (some ⟨c, 0, none⟩), .int .i64 (h : Int)] w fun e w' => e = .returned (.bool true) ∧ w = w' := by
  obtain ⟨k0, k1, k2⟩ := H.cells
  have a1 : (0 : Int) ≤ (h : Int) := by omega
  have a2 : (h : Int) < (Ls.length : Int) := by omega
  clear H
  go_enter Try.func156, Try.ntmps156
  go_wp2_with fail
  go_ret
  exact ⟨rfl, rfl⟩
set_option maxRecDepth 100000 in
theorem isHead_bad (H : Lo w c q r cq cr N F Ls) {h : Int} (hh : ¬ (0 ≤ h ∧ h < (Ls.length : Int))) :
    Calls Try.prog 156 #[.pointer (some ⟨c, 0, none⟩), .int .i64 h] w fun e w' => e = .returned (.bool false) ∧ w = w' := by
  obtain ⟨k0, k1, k2⟩ := H.cells
  clear H
  by_cases a1 : (0 : Int) ≤ h
  · have a2 : ¬ h < (Ls.length : Int) := fun h2 => hh ⟨a1, h2⟩
    clear hh
    go_enter Try.func156, Try.ntmps156
    go_wp2_with fail
    go_ret
    exact ⟨rfl, rfl⟩
  · clear hh
    go_enter Try.func156, Try.ntmps156
    go_wp2_with fail
    go_ret
    exact ⟨rfl, rfl⟩
set_option maxRecDepth 100000 in
theorem checkHead_ok (H : Lo w c q r cq cr N F Ls) {h : Nat} (hh : h < Ls.length) :
    Calls Try.prog 98 #[.pointer (some ⟨c, 0, none⟩), .int .i64 (h : Int)] w fun e w' => e = .returned (.int .i64 0) ∧ w = w' := by
  have H1 := Lib.hid (isZero_any H)
  have H2 := Lib.hid (isHead_ok H hh)
  clear H
  go_enter Try.func98, Try.ntmps98
  go_wp2_with fail
  refine H1.out.mono ?_
  rintro e w1 ⟨rfl, rfl⟩
  go_wp2_with fail
  refine H2.out.mono ?_
  rintro e w1 ⟨rfl, rfl⟩
  go_wp2_with fail
  go_ret
  exact ⟨rfl, rfl⟩
set_option maxRecDepth 100000 in
theorem checkHead_bad (H : Lo w c q r cq cr N F Ls) {h : Int} (hh : ¬ (0 ≤ h ∧ h < (Ls.length : Int))) :
    Calls Try.prog 98 #[.pointer (some ⟨c, 0, none⟩), .int .i64 h] w fun e w' => e = .returned (.int .i64 2) ∧ w = w' := by
  have H1 := Lib.hid (isZero_any H)
  have H2 := Lib.hid (isHead_bad H hh)
  clear H hh
  go_enter Try.func98, Try.ntmps98
  go_wp2_with fail
  refine H1.out.mono ?_
  rintro e w1 ⟨rfl, rfl⟩
  go_wp2_with fail
  refine H2.out.mono ?_
  rintro e w1 ⟨rfl, rfl⟩
  go_wp2_with fail
  go_ret
  exact ⟨rfl, rfl⟩
set_option maxRecDepth 100000 in
theorem inside_in (H : Lo w c q r cq cr N F Ls) {n : Nat} (hn : n < N) :
    Calls Try.prog 151 #[.pointer (some ⟨c, 0, none⟩), .int .u32 (n : Int)] w fun e w' => e = .returned (.tuple #[.int .u32 (n : Int), .int .i64 0]) ∧ w = w' := by
  obtain ⟨k0, k1, k2⟩ := H.cells
  have a1 : ¬ (N : Int) ≤ (n : Int) := by omega
  have n2 := H.n2
  clear H
  go_enter Try.func151, Try.ntmps151
  go_wp2_with fail
  go_ret2
  exact ⟨rfl, rfl⟩
set_option maxRecDepth 100000 in
theorem inside_out (H : Lo w c q r cq cr N F Ls) {n : Nat} (hn : N ≤ n) (hn2 : n < 4294967296) :
    Calls Try.prog 151 #[.pointer (some ⟨c, 0, none⟩), .int .u32 (n : Int)] w fun e w' => e = .returned (.tuple #[.int .u32 0, .int .i64 9]) ∧ w = w' := by
  obtain ⟨k0, k1, k2⟩ := H.cells
  have a1 : (N : Int) ≤ (n : Int) := by omega
  have n2 := H.n2
  clear H
  go_enter Try.func151, Try.ntmps151
  go_wp2_with fail
  go_ret2
  exact ⟨rfl, rfl⟩
/-- check of one node -/
theorem check_any (H : Lo w c q r cq cr N F Ls) {n : Int} (n0 : 0 ≤ n) (n1 : n < 4294967296) {g : Nat} {t : TypeId} (hg : w.heap[g]? = some (.cells #[.int .u32 n] t (0, 0))) :
    Calls Try.prog 149 #[.pointer (some ⟨c, 0, none⟩), .slice (some ⟨g, 0, none⟩) 1 1] w fun e w' => e = .returned (.int .i64 (if n < (N : Int) then 0 else 2)) ∧ Below w.heap.size w w' := by
  obtain ⟨k0, k1, k2⟩ := H.cells
  have H1 := Lib.hid (isZero_any H)
  have e0 : w.cell? ⟨g, 0, none⟩ = some (.int .u32 n) := by simp [World.cell?, hg]
  have n2 := H.n2
  clear H hg
  by_cases hn : n < (N : Int)
  · rw [if_pos hn]
    have hn2 : ¬ (N : Int) ≤ n := by omega
    go_enter Try.func149, Try.ntmps149
    go_wp2_with fail
    refine H1.out.mono ?_
    rintro e w1 ⟨rfl, rfl⟩
    go_wp2_with fail
    refine wp_loop_rounds 2 ?_
    repeat any_goals (rw [rounds_succ]; go_wp2_with fail)
    go_ret
    exact ⟨rfl, by go_grown⟩
  · rw [if_neg hn]
    have hn2 : (N : Int) ≤ n := by omega
    go_enter Try.func149, Try.ntmps149
    go_wp2_with fail
    refine H1.out.mono ?_
    rintro e w1 ⟨rfl, rfl⟩
    go_wp2_with fail
    refine wp_loop_rounds 2 ?_
    repeat any_goals (rw [rounds_succ]; go_wp2_with fail)
    go_ret
    exact ⟨rfl, by go_grown⟩
end
end Go.Proofs.Ytjcabdnjimcdgaa.Lnk
