/-
  The examples of a chapter: evaluated.
-/
import Derived.Test.YtconecjgkbcahaaProg
import Derived.Test.YtconecjgkbcahaaEvW
namespace Go.Proofs.Ytconecjgkbcahaa.YtconecjgkbcahaaK13known
open Go Go.RowKit
set_option maxRecDepth 100000
theorem known : Ev.evalsTo [] [] Try.prog 1000 60 10 [] (.bool true) = true := by kernel_rfl
end Go.Proofs.Ytconecjgkbcahaa.YtconecjgkbcahaaK13known
