/-
  The examples of a chapter: evaluated.
-/
import Derived.Test.YtmdcgpdpkicbpaaProg
import Derived.Test.YtmdcgpdpkicbpaaEvW
namespace Go.Proofs.Ytmdcgpdpkicbpaa.YtmdcgpdpkicbpaaK12known
open Go Go.RowKit
set_option maxRecDepth 100000
theorem known : Ev.evalsTo [] [] Try.prog 1000 60 55 [] (.bool true) = true := by kernel_rfl
end Go.Proofs.Ytmdcgpdpkicbpaa.YtmdcgpdpkicbpaaK12known
