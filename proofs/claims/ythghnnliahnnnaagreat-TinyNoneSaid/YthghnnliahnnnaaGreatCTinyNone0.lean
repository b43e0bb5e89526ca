/-
  TinyNone, cases 0 to 0: evaluated.
-/
import Derived.Test.YthghnnliahnnnaaGreatProg
import Derived.Test.YthghnnliahnnnaaGreatEvW
namespace Go.Proofs.YthghnnliahnnnaaGreat.tinyNone
open Go Go.RowKit
set_option maxRecDepth 100000
theorem case0 : Ev.evalsTo [.call 13 [] (.bool true)] [] Tryz.prog 1000 60 3 [.chan (some 0)] (.bool true) = true := by kernel_rfl
end Go.Proofs.YthghnnliahnnnaaGreat.tinyNone
