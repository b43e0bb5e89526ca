/-
  TierNone: closed facts of its row.
-/
import Derived.Test.YtcmcmmedcodmpaaGreatDoorRows
import Derived.Test.YtcmcmmedcodmpaaGreatDoorProg
import Derived.JoinedOf
import Derived.KernelRfl
namespace Go.Proofs.YtcmcmmedcodmpaaGreatDoor.tierNone
open Go
set_option maxRecDepth 100000
theorem closed11 : ((Rows.tierNoneRow.unfollowed == Tryz.prog.unfollowed 3)) = true := by kernel_rfl
theorem closed25 : (Tryz.prog.stopsHeard) = true := by kernel_rfl
end Go.Proofs.YtcmcmmedcodmpaaGreatDoor.tierNone
