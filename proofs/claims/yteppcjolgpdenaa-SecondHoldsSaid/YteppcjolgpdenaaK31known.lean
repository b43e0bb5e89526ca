/-
  The examples of a chapter: evaluated.
-/
import Derived.Test.YteppcjolgpdenaaProg
import Derived.Test.YteppcjolgpdenaaEvW
namespace Go.Proofs.Yteppcjolgpdenaa.YteppcjolgpdenaaK31known
open Go Go.RowKit
set_option maxRecDepth 100000
theorem known : Ev.evalsTo [] [] Try.prog 1000 60 6 [] (.bool true) = true := by kernel_rfl
end Go.Proofs.Yteppcjolgpdenaa.YteppcjolgpdenaaK31known
