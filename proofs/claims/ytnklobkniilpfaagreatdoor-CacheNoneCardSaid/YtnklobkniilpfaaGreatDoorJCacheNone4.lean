/-
  CacheNone: closed facts of its row.
-/
import Derived.Test.YtnklobkniilpfaaGreatDoorRows
import Derived.Test.YtnklobkniilpfaaGreatDoorProg
import Derived.JoinedOf
import Derived.KernelRfl
namespace Go.Proofs.YtnklobkniilpfaaGreatDoor.cacheNone
open Go
set_option maxRecDepth 100000
theorem closed13 : ((Rows.cacheNoneRow.named == Tryz.prog.varsNamed 3)) = true := by kernel_rfl
end Go.Proofs.YtnklobkniilpfaaGreatDoor.cacheNone
