/-
  StaleNone: closed facts of its row.
-/
import Derived.Test.YtjefafgnkaenbaaGreatDoorRows
import Derived.Test.YtjefafgnkaenbaaGreatDoorProg
import Derived.JoinedOf
import Derived.KernelRfl
namespace Go.Proofs.YtjefafgnkaenbaaGreatDoor.staleNone
open Go
set_option maxRecDepth 100000
theorem closed10 : ((Rows.staleNoneRow.inPlace == Tryz.prog.inPlace 3)) = true := by kernel_rfl
theorem closed23 : ((Rows.staleNoneRow.plainKeys == Tryz.prog.plainKeys)) = true := by kernel_rfl
end Go.Proofs.YtjefafgnkaenbaaGreatDoor.staleNone
