/-
  LfuNone, cases 0 to 0: evaluated.
-/
import Derived.Test.YtdcjmebgcojnmaaProg
import Derived.Test.YtdcjmebgcojnmaaEvW
namespace Go.Proofs.Ytdcjmebgcojnmaa.lfuNone
open Go Go.RowKit
set_option maxRecDepth 100000
theorem case0 : Ev.evalsTo [.call 24 [] (.bool true)] [] Try.prog 1000 60 4 [.chan (some 0)] (.bool true) = true := by kernel_rfl
end Go.Proofs.Ytdcjmebgcojnmaa.lfuNone
