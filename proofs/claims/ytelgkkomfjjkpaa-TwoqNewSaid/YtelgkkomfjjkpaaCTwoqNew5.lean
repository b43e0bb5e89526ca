/-
  TwoqNew, case 5: evaluated.
-/
import Derived.Test.YtelgkkomfjjkpaaProg
import Derived.Test.YtelgkkomfjjkpaaEvW
namespace Go.Proofs.Ytelgkkomfjjkpaa.twoqNew
open Go Go.RowKit
theorem case5 : Ev.evalsTo [.bin .lss (.chan (some 0)) (.int .i64 1) (.bool false), .bin .gtr (.chan (some 0)) (.int .i64 1024) (.bool false), .bin .lss (.chan (some 1)) (.int .i64 1) (.bool false), .bin .gtr (.chan (some 1)) (.chan (some 0)) (.bool false), .bin .lss (.chan (some 2)) (.int .i64 0) (.bool false), .bin .gtr (.chan (some 2)) (.int .i64 1024) (.bool true)] Try.prog 1000 60 11 [.chan (some 0), .chan (some 1), .chan (some 2)] (.bool true) = true := by kernel_rfl
end Go.Proofs.Ytelgkkomfjjkpaa.twoqNew
