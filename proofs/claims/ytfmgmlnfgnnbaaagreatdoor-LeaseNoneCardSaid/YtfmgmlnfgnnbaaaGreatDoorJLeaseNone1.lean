/-
  LeaseNone: closed facts of its row.
-/
import Derived.Test.YtfmgmlnfgnnbaaaGreatDoorRows
import Derived.Test.YtfmgmlnfgnnbaaaGreatDoorProg
import Derived.JoinedOf
import Derived.KernelRfl
namespace Go.Proofs.YtfmgmlnfgnnbaaaGreatDoor.leaseNone
open Go
set_option maxRecDepth 100000
theorem closed10 : ((Rows.leaseNoneRow.inPlace == Tryz.prog.inPlace 3)) = true := by kernel_rfl
theorem closed23 : ((Rows.leaseNoneRow.plainKeys == Tryz.prog.plainKeys)) = true := by kernel_rfl
end Go.Proofs.YtfmgmlnfgnnbaaaGreatDoor.leaseNone
