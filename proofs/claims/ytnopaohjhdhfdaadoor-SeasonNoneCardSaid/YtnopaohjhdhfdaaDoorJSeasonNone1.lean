/-
  SeasonNone: closed facts of its row.
-/
import Derived.Test.YtnopaohjhdhfdaaDoorRows
import Derived.Test.YtnopaohjhdhfdaaDoorProg
import Derived.JoinedOf
import Derived.KernelRfl
namespace Go.Proofs.YtnopaohjhdhfdaaDoor.seasonNone
open Go
set_option maxRecDepth 100000
theorem closed10 : ((Rows.seasonNoneRow.inPlace == Tryd.prog.inPlace 3)) = true := by kernel_rfl
theorem closed23 : ((Rows.seasonNoneRow.plainKeys == Tryd.prog.plainKeys)) = true := by kernel_rfl
end Go.Proofs.YtnopaohjhdhfdaaDoor.seasonNone
