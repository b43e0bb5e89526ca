/-
  The examples of a chapter: evaluated.
-/
import Derived.Test.YtggimkfepcgaoaaProg
import Derived.Test.YtggimkfepcgaoaaEvW
namespace Go.Proofs.Ytggimkfepcgaoaa.YtggimkfepcgaoaaK29known
open Go Go.RowKit
set_option maxRecDepth 100000
theorem known : Ev.evalsTo [] [] Try.prog 1000 60 50 [] (.bool true) = true := by kernel_rfl
end Go.Proofs.Ytggimkfepcgaoaa.YtggimkfepcgaoaaK29known
