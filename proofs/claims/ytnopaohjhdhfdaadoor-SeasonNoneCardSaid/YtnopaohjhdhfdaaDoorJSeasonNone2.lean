/-
  SeasonNone: closed facts of its row.
-/
import Derived.Test.YtnopaohjhdhfdaaDoorRows
import Derived.Test.YtnopaohjhdhfdaaDoorProg
import Derived.JoinedOf
import Derived.KernelRfl
namespace Go.Proofs.YtnopaohjhdhfdaaDoor.seasonNone
open Go
set_option maxRecDepth 100000
theorem closed11 : ((Rows.seasonNoneRow.unfollowed == Tryd.prog.unfollowed 3)) = true := by kernel_rfl
theorem closed25 : (Tryd.prog.stopsHeard) = true := by kernel_rfl
end Go.Proofs.YtnopaohjhdhfdaaDoor.seasonNone
