/-
  SecondNew, cases 0 to 1: evaluated.
-/
import Derived.Test.YthghnnliahnnnaaProg
import Derived.Test.YthghnnliahnnnaaEvW
namespace Go.Proofs.Ythghnnliahnnnaa.secondNew
open Go Go.RowKit
set_option maxRecDepth 100000
theorem case0 : Ev.evalsTo [.bin .lss (.chan (some 0)) (.int .i64 1) (.bool true), .call 30 [] (.bool true)] [] Try.prog 1000 60 7 [.chan (some 0)] (.bool true) = true := by kernel_rfl
theorem case1 : Ev.evalsTo [.bin .lss (.chan (some 0)) (.int .i64 1) (.bool false), .bin .gtr (.chan (some 0)) (.int .i64 1024) (.bool true), .call 30 [] (.bool true)] [] Try.prog 1000 60 7 [.chan (some 0)] (.bool true) = true := by kernel_rfl
end Go.Proofs.Ythghnnliahnnnaa.secondNew
