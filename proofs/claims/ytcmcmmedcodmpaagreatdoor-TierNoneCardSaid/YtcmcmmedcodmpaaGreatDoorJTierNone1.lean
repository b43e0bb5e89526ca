/-
  TierNone: closed facts of its row.
-/
import Derived.Test.YtcmcmmedcodmpaaGreatDoorRows
import Derived.Test.YtcmcmmedcodmpaaGreatDoorProg
import Derived.JoinedOf
import Derived.KernelRfl
namespace Go.Proofs.YtcmcmmedcodmpaaGreatDoor.tierNone
open Go
set_option maxRecDepth 100000
theorem closed10 : ((Rows.tierNoneRow.inPlace == Tryz.prog.inPlace 3)) = true := by kernel_rfl
theorem closed23 : ((Rows.tierNoneRow.plainKeys == Tryz.prog.plainKeys)) = true := by kernel_rfl
end Go.Proofs.YtcmcmmedcodmpaaGreatDoor.tierNone
