/-
  CursorNone: closed facts of its row.
-/
import Derived.Test.YthpgjakenfhgfaaGreatDoorRows
import Derived.Test.YthpgjakenfhgfaaGreatDoorProg
import Derived.JoinedOf
import Derived.KernelRfl
namespace Go.Proofs.YthpgjakenfhgfaaGreatDoor.cursorNone
open Go
set_option maxRecDepth 100000
theorem closed10 : ((Rows.cursorNoneRow.inPlace == Tryz.prog.inPlace 3)) = true := by kernel_rfl
theorem closed23 : ((Rows.cursorNoneRow.plainKeys == Tryz.prog.plainKeys)) = true := by kernel_rfl
end Go.Proofs.YthpgjakenfhgfaaGreatDoor.cursorNone
