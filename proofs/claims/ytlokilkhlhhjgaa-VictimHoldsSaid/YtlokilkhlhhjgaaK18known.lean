/-
  The examples of a chapter: evaluated.
-/
import Derived.Test.YtlokilkhlhhjgaaProg
import Derived.Test.YtlokilkhlhhjgaaEvW
namespace Go.Proofs.Ytlokilkhlhhjgaa.YtlokilkhlhhjgaaK18known
open Go Go.RowKit
set_option maxRecDepth 100000
theorem known : Ev.evalsTo [] [] Try.prog 1000 60 8 [] (.bool true) = true := by kernel_rfl
end Go.Proofs.Ytlokilkhlhhjgaa.YtlokilkhlhhjgaaK18known
