/-
  TierNone: closed facts of its row.
-/
import Derived.Test.YtcmcmmedcodmpaaGreatDoorRows
import Derived.Test.YtcmcmmedcodmpaaGreatDoorProg
import Derived.JoinedOf
import Derived.KernelRfl
namespace Go.Proofs.YtcmcmmedcodmpaaGreatDoor.tierNone
open Go
set_option maxRecDepth 100000
theorem closed2 : (laidOutB Tryz.prog) = true := by kernel_rfl
theorem closed3 : (mapsRowed Tryz.prog) = true := by kernel_rfl
end Go.Proofs.YtcmcmmedcodmpaaGreatDoor.tierNone
