/-
  CursorNone: closed facts of its row.
-/
import Derived.Test.YthpgjakenfhgfaaGreatDoorRows
import Derived.Test.YthpgjakenfhgfaaGreatDoorProg
import Derived.JoinedOf
import Derived.KernelRfl
namespace Go.Proofs.YthpgjakenfhgfaaGreatDoor.cursorNone
open Go
set_option maxRecDepth 100000
theorem closed13 : ((Rows.cursorNoneRow.named == Tryz.prog.varsNamed 3)) = true := by kernel_rfl
end Go.Proofs.YthpgjakenfhgfaaGreatDoor.cursorNone
