/-
  LeaseNone: closed facts of its row.
-/
import Derived.Test.YtfmgmlnfgnnbaaaGreatDoorRows
import Derived.Test.YtfmgmlnfgnnbaaaGreatDoorProg
import Derived.JoinedOf
import Derived.KernelRfl
namespace Go.Proofs.YtfmgmlnfgnnbaaaGreatDoor.leaseNone
open Go
set_option maxRecDepth 100000
theorem closed2 : (laidOutB Tryz.prog) = true := by kernel_rfl
theorem closed3 : (mapsRowed Tryz.prog) = true := by kernel_rfl
end Go.Proofs.YtfmgmlnfgnnbaaaGreatDoor.leaseNone
