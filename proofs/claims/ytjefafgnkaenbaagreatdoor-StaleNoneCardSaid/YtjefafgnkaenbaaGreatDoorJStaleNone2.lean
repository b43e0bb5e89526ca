/-
  StaleNone: closed facts of its row.
-/
import Derived.Test.YtjefafgnkaenbaaGreatDoorRows
import Derived.Test.YtjefafgnkaenbaaGreatDoorProg
import Derived.JoinedOf
import Derived.KernelRfl
namespace Go.Proofs.YtjefafgnkaenbaaGreatDoor.staleNone
open Go
set_option maxRecDepth 100000
theorem closed11 : ((Rows.staleNoneRow.unfollowed == Tryz.prog.unfollowed 3)) = true := by kernel_rfl
theorem closed25 : (Tryz.prog.stopsHeard) = true := by kernel_rfl
end Go.Proofs.YtjefafgnkaenbaaGreatDoor.staleNone
