/-
  SeasonNone: closed facts of its row.
-/
import Derived.Test.YtnopaohjhdhfdaaDoorRows
import Derived.Test.YtnopaohjhdhfdaaDoorProg
import Derived.JoinedOf
import Derived.KernelRfl
namespace Go.Proofs.YtnopaohjhdhfdaaDoor.seasonNone
open Go
set_option maxRecDepth 100000
theorem closed13 : ((Rows.seasonNoneRow.named == Tryd.prog.varsNamed 3)) = true := by kernel_rfl
end Go.Proofs.YtnopaohjhdhfdaaDoor.seasonNone
