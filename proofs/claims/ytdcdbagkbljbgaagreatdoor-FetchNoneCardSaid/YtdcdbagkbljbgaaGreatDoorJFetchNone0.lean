/-
  FetchNone: closed facts of its row.
-/
import Derived.Test.YtdcdbagkbljbgaaGreatDoorRows
import Derived.Test.YtdcdbagkbljbgaaGreatDoorProg
import Derived.JoinedOf
import Derived.KernelRfl
namespace Go.Proofs.YtdcdbagkbljbgaaGreatDoor.fetchNone
open Go
set_option maxRecDepth 100000
theorem closed2 : (laidOutB Tryz.prog) = true := by kernel_rfl
theorem closed3 : (mapsRowed Tryz.prog) = true := by kernel_rfl
end Go.Proofs.YtdcdbagkbljbgaaGreatDoor.fetchNone
