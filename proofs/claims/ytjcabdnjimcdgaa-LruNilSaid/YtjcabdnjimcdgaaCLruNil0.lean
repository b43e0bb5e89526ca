/-
  LruNil, cases 0 to 0: evaluated.
-/
import Derived.Test.YtjcabdnjimcdgaaProg
import Derived.Test.YtjcabdnjimcdgaaEvW
namespace Go.Proofs.Ytjcabdnjimcdgaa.lruNil
open Go Go.RowKit
set_option maxRecDepth 100000
theorem case0 : Ev.evalsTo [.call 27 [] (.bool true)] [] Try.prog 1000 60 8 [.chan (some 0)] (.bool true) = true := by kernel_rfl
end Go.Proofs.Ytjcabdnjimcdgaa.lruNil
