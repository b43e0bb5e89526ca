/-
  SeasonNone: closed facts of its row.
-/
import Derived.Test.YtnopaohjhdhfdaaDoorRows
import Derived.Test.YtnopaohjhdhfdaaDoorProg
import Derived.JoinedOf
import Derived.KernelRfl
namespace Go.Proofs.YtnopaohjhdhfdaaDoor.seasonNone
open Go
set_option maxRecDepth 100000
theorem closed12 : ((Rows.seasonNoneRow.recurses == Tryd.prog.recurses 3)) = true := by kernel_rfl
theorem closed26 : (Tryd.prog.mayEnter) = true := by kernel_rfl
end Go.Proofs.YtnopaohjhdhfdaaDoor.seasonNone
