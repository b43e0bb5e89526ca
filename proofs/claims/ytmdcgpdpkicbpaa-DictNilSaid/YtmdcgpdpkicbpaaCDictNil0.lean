/-
  DictNil, cases 0 to 2: evaluated.
-/
import Derived.Test.YtmdcgpdpkicbpaaProg
import Derived.Test.YtmdcgpdpkicbpaaEvW
namespace Go.Proofs.Ytmdcgpdpkicbpaa.dictNil
open Go Go.RowKit
set_option maxRecDepth 100000
theorem case0 : Ev.evalsTo [.len 9 (.chan (some 1)) (.chan (some 5)), .bin .gtr (.chan (some 5)) (.int .i64 300) (.bool true), .call 34 [] (.bool true)] [] Try.prog 1000 60 5 [.chan (some 0), .agg ⟨[.chan (some 1), .chan (some 2), .chan (some 3), .chan (some 4)]⟩] (.bool true) = true := by kernel_rfl
theorem case1 : Ev.evalsTo [.len 9 (.chan (some 1)) (.chan (some 5)), .bin .gtr (.chan (some 5)) (.int .i64 300) (.bool false), .len 34 (.chan (some 2)) (.chan (some 6)), .bin .gtr (.chan (some 6)) (.int .i64 300) (.bool true), .call 34 [] (.bool true)] [] Try.prog 1000 60 5 [.chan (some 0), .agg ⟨[.chan (some 1), .chan (some 2), .chan (some 3), .chan (some 4)]⟩] (.bool true) = true := by kernel_rfl
theorem case2 : Ev.evalsTo [.len 9 (.chan (some 1)) (.chan (some 5)), .bin .gtr (.chan (some 5)) (.int .i64 300) (.bool false), .len 34 (.chan (some 2)) (.chan (some 6)), .bin .gtr (.chan (some 6)) (.int .i64 300) (.bool false), .call 34 [] (.bool true)] [] Try.prog 1000 60 5 [.chan (some 0), .agg ⟨[.chan (some 1), .chan (some 2), .chan (some 3), .chan (some 4)]⟩] (.bool true) = true := by kernel_rfl
end Go.Proofs.Ytmdcgpdpkicbpaa.dictNil
