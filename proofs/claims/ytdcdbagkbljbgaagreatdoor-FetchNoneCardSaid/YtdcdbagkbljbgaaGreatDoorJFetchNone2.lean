/-
  FetchNone: closed facts of its row.
-/
import Derived.Test.YtdcdbagkbljbgaaGreatDoorRows
import Derived.Test.YtdcdbagkbljbgaaGreatDoorProg
import Derived.JoinedOf
import Derived.KernelRfl
namespace Go.Proofs.YtdcdbagkbljbgaaGreatDoor.fetchNone
open Go
set_option maxRecDepth 100000
theorem closed11 : ((Rows.fetchNoneRow.unfollowed == Tryz.prog.unfollowed 3)) = true := by kernel_rfl
theorem closed25 : (Tryz.prog.stopsHeard) = true := by kernel_rfl
end Go.Proofs.YtdcdbagkbljbgaaGreatDoor.fetchNone
