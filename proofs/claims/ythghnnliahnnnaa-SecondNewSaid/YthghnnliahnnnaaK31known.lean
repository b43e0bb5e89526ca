/-
  The examples of a chapter: evaluated.
-/
import Derived.Test.YthghnnliahnnnaaProg
import Derived.Test.YthghnnliahnnnaaEvW
namespace Go.Proofs.Ythghnnliahnnnaa.YthghnnliahnnnaaK31known
open Go Go.RowKit
set_option maxRecDepth 100000
theorem known : Ev.evalsTo [] [] Try.prog 1000 60 30 [] (.bool true) = true := by kernel_rfl
end Go.Proofs.Ythghnnliahnnnaa.YthghnnliahnnnaaK31known
