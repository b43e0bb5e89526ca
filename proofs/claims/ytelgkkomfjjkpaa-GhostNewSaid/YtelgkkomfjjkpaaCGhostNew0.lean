/-
  GhostNew, case 0: evaluated.
-/
import Derived.Test.YtelgkkomfjjkpaaProg
import Derived.Test.YtelgkkomfjjkpaaEvW
namespace Go.Proofs.Ytelgkkomfjjkpaa.ghostNew
open Go Go.RowKit
theorem case0 : Ev.evalsTo [.bin .geq (.chan (some 0)) (.int .i64 0) (.bool false), .bin .lss (.chan (some 0)) (.int .i64 0) (.bool true)] Try.prog 1000 60 5 [.chan (some 0)] (.bool true) = true := by kernel_rfl
end Go.Proofs.Ytelgkkomfjjkpaa.ghostNew
