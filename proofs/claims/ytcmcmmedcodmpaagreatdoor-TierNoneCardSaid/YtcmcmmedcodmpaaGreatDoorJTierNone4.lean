/-
  TierNone: closed facts of its row.
-/
import Derived.Test.YtcmcmmedcodmpaaGreatDoorRows
import Derived.Test.YtcmcmmedcodmpaaGreatDoorProg
import Derived.JoinedOf
import Derived.KernelRfl
namespace Go.Proofs.YtcmcmmedcodmpaaGreatDoor.tierNone
open Go
set_option maxRecDepth 100000
theorem closed13 : ((Rows.tierNoneRow.named == Tryz.prog.varsNamed 3)) = true := by kernel_rfl
end Go.Proofs.YtcmcmmedcodmpaaGreatDoor.tierNone
