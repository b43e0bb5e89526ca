/-
  The examples of a chapter: evaluated.
-/
import Derived.Test.YtohldfhelppehaaProg
import Derived.Test.YtohldfhelppehaaEvW
namespace Go.Proofs.Ytohldfhelppehaa.YtohldfhelppehaaK33known
open Go Go.RowKit
set_option maxRecDepth 100000
theorem known : Ev.evalsTo [] [] Try.prog 1000 60 31 [] (.bool true) = true := by kernel_rfl
end Go.Proofs.Ytohldfhelppehaa.YtohldfhelppehaaK33known
