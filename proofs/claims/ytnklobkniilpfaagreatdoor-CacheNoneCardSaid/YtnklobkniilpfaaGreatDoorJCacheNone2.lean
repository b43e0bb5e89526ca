/-
  CacheNone: closed facts of its row.
-/
import Derived.Test.YtnklobkniilpfaaGreatDoorRows
import Derived.Test.YtnklobkniilpfaaGreatDoorProg
import Derived.JoinedOf
import Derived.KernelRfl
namespace Go.Proofs.YtnklobkniilpfaaGreatDoor.cacheNone
open Go
set_option maxRecDepth 100000
theorem closed11 : ((Rows.cacheNoneRow.unfollowed == Tryz.prog.unfollowed 3)) = true := by kernel_rfl
theorem closed25 : (Tryz.prog.stopsHeard) = true := by kernel_rfl
end Go.Proofs.YtnklobkniilpfaaGreatDoor.cacheNone
