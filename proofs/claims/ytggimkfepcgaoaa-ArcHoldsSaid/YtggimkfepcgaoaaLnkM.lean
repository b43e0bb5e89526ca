/-
  Links (layer 14): Front and Back where they give an error.
-/
import Derived.Test.YtggimkfepcgaoaaLnkI
set_option linter.unusedVariables false
set_option linter.unusedSimpArgs false
namespace Go.Proofs.Ytggimkfepcgaoaa.Lnk
open Go Go.RowKit Kit
section
variable {w : World} {c q r cq cr N : Nat} {F : Fd} {Ls : List (List Nat)}
set_option maxRecDepth 100000 in
theorem Back_badH (H : Lo w c q r cq cr N F Ls) {h n : Int} (hh : ¬ (0 ≤ h ∧ h < (Ls.length : Int))) :
    Calls Try.prog 21 #[.pointer (some ⟨c, 0, none⟩), .int .i64 h, .int .u32 n] w fun e w' => e = .returned (.int .i64 2) ∧ Below w.heap.size w w' := by
  have HA := Lib.hid (fun fv => add_badH (n := n) H fv hh)
  clear H
  clear hh
  go_enter Try.func21, Try.ntmps21
  go_wp2_with fail
  refine (HA.out _).mono ?_
  rintro e w1 ⟨rfl, b1⟩
  have B1 := Lib.hid (b1)
  clear b1
  go_wp2_with fail
  go_ret
  exact ⟨rfl, B1.out⟩
set_option maxRecDepth 100000 in
theorem Back_badN (H : Lo w c q r cq cr N F Ls) {h : Nat} {n : Int} (hh : h < Ls.length) (n0 : (N : Int) ≤ n) (n1 : n < 4294967296) :
    Calls Try.prog 21 #[.pointer (some ⟨c, 0, none⟩), .int .i64 (h : Int), .int .u32 n] w fun e w' => e = .returned (.int .i64 2) ∧ Below w.heap.size w w' := by
  have HA := Lib.hid (fun fv => add_badN (n := n) H fv hh n0 n1)
  clear H
  clear hh n0 n1
  go_enter Try.func21, Try.ntmps21
  go_wp2_with fail
  refine (HA.out _).mono ?_
  rintro e w1 ⟨rfl, b1⟩
  have B1 := Lib.hid (b1)
  clear b1
  go_wp2_with fail
  go_ret
  exact ⟨rfl, B1.out⟩
set_option maxRecDepth 100000 in
theorem Back_busy (H : Lo w c q r cq cr N F Ls) {h n : Nat} (hh : h < Ls.length) (hn : n < N) (hf : F.hd n ≠ -1) :
    Calls Try.prog 21 #[.pointer (some ⟨c, 0, none⟩), .int .i64 (h : Int), .int .u32 (n : Int)] w fun e w' => e = .returned (.int .i64 11) ∧ Below w.heap.size w w' := by
  have HA := Lib.hid (fun fv => add_busy (n := n) H fv hh hn hf)
  clear H
  clear hh hn hf
  go_enter Try.func21, Try.ntmps21
  go_wp2_with fail
  refine (HA.out _).mono ?_
  rintro e w1 ⟨rfl, b1⟩
  have B1 := Lib.hid (b1)
  clear b1
  go_wp2_with fail
  go_ret
  exact ⟨rfl, B1.out⟩
set_option maxRecDepth 100000 in
theorem Front_badH (H : Lo w c q r cq cr N F Ls) {h n : Int} (hh : ¬ (0 ≤ h ∧ h < (Ls.length : Int))) :
    Calls Try.prog 24 #[.pointer (some ⟨c, 0, none⟩), .int .i64 h, .int .u32 n] w fun e w' => e = .returned (.int .i64 2) ∧ Below w.heap.size w w' := by
  have HB := Lib.hid (box_below w #[.pointer (some ⟨c, 0, none⟩)] 28)
  have HA := Lib.hid (fun fv => add_badH (n := n) (H.below HB.out) fv hh)
  clear H
  clear hh
  go_enter Try.func24, Try.ntmps24
  go_wp2_with fail
  refine (HA.out _).mono ?_
  rintro e w1 ⟨rfl, b1⟩
  have B1 := Lib.hid (tr HB.out b1)
  clear b1
  go_wp2_with fail
  go_ret
  exact ⟨rfl, B1.out⟩
set_option maxRecDepth 100000 in
theorem Front_badN (H : Lo w c q r cq cr N F Ls) {h : Nat} {n : Int} (hh : h < Ls.length) (n0 : (N : Int) ≤ n) (n1 : n < 4294967296) :
    Calls Try.prog 24 #[.pointer (some ⟨c, 0, none⟩), .int .i64 (h : Int), .int .u32 n] w fun e w' => e = .returned (.int .i64 2) ∧ Below w.heap.size w w' := by
  have HB := Lib.hid (box_below w #[.pointer (some ⟨c, 0, none⟩)] 28)
  have HA := Lib.hid (fun fv => add_badN (n := n) (H.below HB.out) fv hh n0 n1)
  clear H
  clear hh n0 n1
  go_enter Try.func24, Try.ntmps24
  go_wp2_with fail
  refine (HA.out _).mono ?_
  rintro e w1 ⟨rfl, b1⟩
  have B1 := Lib.hid (tr HB.out b1)
  clear b1
  go_wp2_with fail
  go_ret
  exact ⟨rfl, B1.out⟩
set_option maxRecDepth 100000 in
theorem Front_busy (H : Lo w c q r cq cr N F Ls) {h n : Nat} (hh : h < Ls.length) (hn : n < N) (hf : F.hd n ≠ -1) :
    Calls Try.prog 24 #[.pointer (some ⟨c, 0, none⟩), .int .i64 (h : Int), .int .u32 (n : Int)] w fun e w' => e = .returned (.int .i64 11) ∧ Below w.heap.size w w' := by
  have HB := Lib.hid (box_below w #[.pointer (some ⟨c, 0, none⟩)] 28)
  have HA := Lib.hid (fun fv => add_busy (n := n) (H.below HB.out) fv hh hn hf)
  clear H
  clear hh hn hf
  go_enter Try.func24, Try.ntmps24
  go_wp2_with fail
  refine (HA.out _).mono ?_
  rintro e w1 ⟨rfl, b1⟩
  have B1 := Lib.hid (tr HB.out b1)
  clear b1
  go_wp2_with fail
  go_ret
  exact ⟨rfl, B1.out⟩
end
end Go.Proofs.Ytggimkfepcgaoaa.Lnk
