/-
  SegmentNew, case 1: evaluated.
-/
import Derived.Test.YtelgkkomfjjkpaaProg
import Derived.Test.YtelgkkomfjjkpaaEvW
namespace Go.Proofs.Ytelgkkomfjjkpaa.segmentNew
open Go Go.RowKit
theorem case1 : Ev.evalsTo [.bin .geq (.chan (some 0)) (.int .i64 (-1)) (.bool true), .bin .leq (.chan (some 0)) (.int .i64 1099511627776) (.bool false)] Try.prog 1000 60 4 [.chan (some 0)] (.bool true) = true := by kernel_rfl
end Go.Proofs.Ytelgkkomfjjkpaa.segmentNew
