/-
  BudgetNew, cases 0 to 4: evaluated.
-/
import Derived.Test.YtcginokeflghgaaProg
import Derived.Test.YtcginokeflghgaaEvW
namespace Go.Proofs.Ytcginokeflghgaa.budgetNew
open Go Go.RowKit
set_option maxRecDepth 100000
theorem case0 : Ev.evalsTo [.bin .geq (.chan (some 0)) (.int .i64 1) (.bool false), .call 6 [] (.bool true)] [] Try.prog 1000 60 3 [.chan (some 0), .chan (some 1)] (.bool true) = true := by kernel_rfl
theorem case1 : Ev.evalsTo [.bin .geq (.chan (some 0)) (.int .i64 1) (.bool true), .bin .leq (.chan (some 0)) (.int .i64 1048576) (.bool false), .call 6 [] (.bool true)] [] Try.prog 1000 60 3 [.chan (some 0), .chan (some 1)] (.bool true) = true := by kernel_rfl
theorem case2 : Ev.evalsTo [.bin .geq (.chan (some 0)) (.int .i64 1) (.bool true), .bin .leq (.chan (some 0)) (.int .i64 1048576) (.bool true), .bin .geq (.chan (some 1)) (.int .i64 1) (.bool false), .call 6 [] (.bool true)] [] Try.prog 1000 60 3 [.chan (some 0), .chan (some 1)] (.bool true) = true := by kernel_rfl
theorem case3 : Ev.evalsTo [.bin .geq (.chan (some 0)) (.int .i64 1) (.bool true), .bin .leq (.chan (some 0)) (.int .i64 1048576) (.bool true), .bin .geq (.chan (some 1)) (.int .i64 1) (.bool true), .bin .leq (.chan (some 1)) (.int .i64 1099511627776) (.bool false), .call 6 [] (.bool true)] [] Try.prog 1000 60 3 [.chan (some 0), .chan (some 1)] (.bool true) = true := by kernel_rfl
theorem case4 : Ev.evalsTo [.bin .geq (.chan (some 0)) (.int .i64 1) (.bool true), .bin .leq (.chan (some 0)) (.int .i64 1048576) (.bool true), .bin .geq (.chan (some 1)) (.int .i64 1) (.bool true), .bin .leq (.chan (some 1)) (.int .i64 1099511627776) (.bool true), .seq 33 (.chan (some 0)) (.int .i64 0), .bin .eql (.chan (some 0)) (.chan (some 0)) (.bool true), .bin .eql (.chan (some 1)) (.chan (some 1)) (.bool true), .bin .sub (.int .i64 0) (.chan (some 0)) (.chan (some 2)), .mx true (.int .i64 0) (.chan (some 2)) (.int .i64 0), .bin .sub (.int .i64 0) (.chan (some 1)) (.chan (some 3)), .mx true (.int .i64 0) (.chan (some 3)) (.int .i64 0), .call 6 [] (.bool true)] [] Try.prog 1000 60 3 [.chan (some 0), .chan (some 1)] (.bool true) = true := by kernel_rfl
end Go.Proofs.Ytcginokeflghgaa.budgetNew
