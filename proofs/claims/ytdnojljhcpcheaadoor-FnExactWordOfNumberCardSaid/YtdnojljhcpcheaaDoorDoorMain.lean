/-
  A closed fact of this seat's translation, in a text of its own for Lean's memory: its main.
-/
import Derived.Test.YtdnojljhcpcheaaDoorRows
import Derived.Test.YtdnojljhcpcheaaDoorCards
import Derived.KernelRfl
import Derived.SevenTiedAt
namespace Go.Proofs.YtdnojljhcpcheaaDoor
open Go

theorem doorMain : Tryd.pinned.checked.prog.mainIs = some (Rows.fnExactWordOfNumberCard.stood.harness.1, Rows.fnExactWordOfNumberCard.stood.harness.2.toList) := by kernel_rfl
end Go.Proofs.YtdnojljhcpcheaaDoor
