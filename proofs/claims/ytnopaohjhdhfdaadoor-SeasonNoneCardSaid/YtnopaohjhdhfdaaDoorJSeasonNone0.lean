/-
  SeasonNone: closed facts of its row.
-/
import Derived.Test.YtnopaohjhdhfdaaDoorRows
import Derived.Test.YtnopaohjhdhfdaaDoorProg
import Derived.JoinedOf
import Derived.KernelRfl
namespace Go.Proofs.YtnopaohjhdhfdaaDoor.seasonNone
open Go
set_option maxRecDepth 100000
theorem closed2 : (laidOutB Tryd.prog) = true := by kernel_rfl
theorem closed3 : (mapsRowed Tryd.prog) = true := by kernel_rfl
end Go.Proofs.YtnopaohjhdhfdaaDoor.seasonNone
