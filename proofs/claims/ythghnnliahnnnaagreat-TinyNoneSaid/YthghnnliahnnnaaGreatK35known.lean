/-
  The examples of a chapter: evaluated.
-/
import Derived.Test.YthghnnliahnnnaaGreatProg
import Derived.Test.YthghnnliahnnnaaGreatEvW
namespace Go.Proofs.YthghnnliahnnnaaGreat.YthghnnliahnnnaaGreatK35known
open Go Go.RowKit
set_option maxRecDepth 100000
theorem known : Ev.evalsTo [] [] Tryz.prog 1000 60 13 [] (.bool true) = true := by kernel_rfl
end Go.Proofs.YthghnnliahnnnaaGreat.YthghnnliahnnnaaGreatK35known
