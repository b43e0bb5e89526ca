/-
  The examples of a chapter: evaluated.
-/
import Derived.Test.YtcginokeflghgaaProg
import Derived.Test.YtcginokeflghgaaEvW
namespace Go.Proofs.Ytcginokeflghgaa.YtcginokeflghgaaK17known
open Go Go.RowKit
set_option maxRecDepth 100000
theorem known : Ev.evalsTo [] [] Try.prog 1000 60 6 [] (.bool true) = true := by kernel_rfl
end Go.Proofs.Ytcginokeflghgaa.YtcginokeflghgaaK17known
