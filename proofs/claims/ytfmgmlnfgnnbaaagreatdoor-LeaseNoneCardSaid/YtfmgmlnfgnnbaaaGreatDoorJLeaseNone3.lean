/-
  LeaseNone: closed facts of its row.
-/
import Derived.Test.YtfmgmlnfgnnbaaaGreatDoorRows
import Derived.Test.YtfmgmlnfgnnbaaaGreatDoorProg
import Derived.JoinedOf
import Derived.KernelRfl
namespace Go.Proofs.YtfmgmlnfgnnbaaaGreatDoor.leaseNone
open Go
set_option maxRecDepth 100000
theorem closed12 : ((Rows.leaseNoneRow.recurses == Tryz.prog.recurses 3)) = true := by kernel_rfl
theorem closed26 : (Tryz.prog.mayEnter) = true := by kernel_rfl
end Go.Proofs.YtfmgmlnfgnnbaaaGreatDoor.leaseNone
