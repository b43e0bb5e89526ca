/-
  The examples of a chapter: evaluated.
-/
import Derived.Test.YtajkcockeccdoaaProg
import Derived.Test.YtajkcockeccdoaaEvW
namespace Go.Proofs.Ytajkcockeccdoaa.YtajkcockeccdoaaK14known
open Go Go.RowKit
set_option maxRecDepth 100000
theorem known : Ev.evalsTo [] [] Try.prog 1000 60 16 [] (.bool true) = true := by kernel_rfl
end Go.Proofs.Ytajkcockeccdoaa.YtajkcockeccdoaaK14known
