/-
  CacheNone: closed facts of its row.
-/
import Derived.Test.YtnklobkniilpfaaGreatDoorRows
import Derived.Test.YtnklobkniilpfaaGreatDoorProg
import Derived.JoinedOf
import Derived.KernelRfl
namespace Go.Proofs.YtnklobkniilpfaaGreatDoor.cacheNone
open Go
set_option maxRecDepth 100000
theorem closed12 : ((Rows.cacheNoneRow.recurses == Tryz.prog.recurses 3)) = true := by kernel_rfl
theorem closed26 : (Tryz.prog.mayEnter) = true := by kernel_rfl
end Go.Proofs.YtnklobkniilpfaaGreatDoor.cacheNone
