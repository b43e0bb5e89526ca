/-
  CursorNone: closed facts of its row.
-/
import Derived.Test.YthpgjakenfhgfaaGreatDoorRows
import Derived.Test.YthpgjakenfhgfaaGreatDoorProg
import Derived.JoinedOf
import Derived.KernelRfl
namespace Go.Proofs.YthpgjakenfhgfaaGreatDoor.cursorNone
open Go
set_option maxRecDepth 100000
theorem closed12 : ((Rows.cursorNoneRow.recurses == Tryz.prog.recurses 3)) = true := by kernel_rfl
theorem closed26 : (Tryz.prog.mayEnter) = true := by kernel_rfl
end Go.Proofs.YthpgjakenfhgfaaGreatDoor.cursorNone
