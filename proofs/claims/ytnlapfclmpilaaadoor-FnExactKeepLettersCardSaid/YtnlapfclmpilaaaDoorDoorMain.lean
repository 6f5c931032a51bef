/-
  A closed fact of this seat's translation, in a text of its own for Lean's memory: its main.
-/
import Derived.Test.YtnlapfclmpilaaaDoorRows
import Derived.Test.YtnlapfclmpilaaaDoorCards
import Derived.KernelRfl
import Derived.SevenTiedAt
namespace Go.Proofs.YtnlapfclmpilaaaDoor
open Go

theorem doorMain : Tryd.pinned.checked.prog.mainIs = some (Rows.fnExactDegreesOfCard.stood.harness.1, Rows.fnExactDegreesOfCard.stood.harness.2.toList) := by kernel_rfl
end Go.Proofs.YtnlapfclmpilaaaDoor
