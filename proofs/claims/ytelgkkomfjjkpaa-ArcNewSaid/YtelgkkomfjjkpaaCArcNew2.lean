/-
  ArcNew, case 2: evaluated.
-/
import Derived.Test.YtelgkkomfjjkpaaProg
import Derived.Test.YtelgkkomfjjkpaaEvW
namespace Go.Proofs.Ytelgkkomfjjkpaa.arcNew
open Go Go.RowKit
theorem case2 : Ev.evalsTo [.bin .lss (.chan (some 0)) (.int .i64 1) (.bool false), .bin .gtr (.chan (some 0)) (.int .i64 1024) (.bool false), .bin .eql (.chan (some 0)) (.int .i64 0) (.bool false), .bin .eql (.chan (some 0)) (.chan (some 0)) (.bool true)] Try.prog 1000 60 7 [.chan (some 0)] (.bool true) = true := by kernel_rfl
end Go.Proofs.Ytelgkkomfjjkpaa.arcNew
