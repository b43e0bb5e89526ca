/-
  FetchNone: closed facts of its row.
-/
import Derived.Test.YtdcdbagkbljbgaaGreatDoorRows
import Derived.Test.YtdcdbagkbljbgaaGreatDoorProg
import Derived.JoinedOf
import Derived.KernelRfl
namespace Go.Proofs.YtdcdbagkbljbgaaGreatDoor.fetchNone
open Go
set_option maxRecDepth 100000
theorem closed10 : ((Rows.fetchNoneRow.inPlace == Tryz.prog.inPlace 3)) = true := by kernel_rfl
theorem closed23 : ((Rows.fetchNoneRow.plainKeys == Tryz.prog.plainKeys)) = true := by kernel_rfl
end Go.Proofs.YtdcdbagkbljbgaaGreatDoor.fetchNone
