/-
  The examples of a chapter: evaluated.
-/
import Derived.Test.YtjcabdnjimcdgaaProg
import Derived.Test.YtjcabdnjimcdgaaEvW
namespace Go.Proofs.Ytjcabdnjimcdgaa.YtjcabdnjimcdgaaK28known
open Go Go.RowKit
set_option maxRecDepth 100000
theorem known : Ev.evalsTo [] [] Try.prog 1000 60 56 [] (.bool true) = true := by kernel_rfl
end Go.Proofs.Ytjcabdnjimcdgaa.YtjcabdnjimcdgaaK28known
