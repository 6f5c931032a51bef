/-
  A closed fact of this seat's translation, in a text of its own for Lean's memory: its main.
-/
import Derived.Test.YtoeednnkadmjpaaDoorRows
import Derived.Test.YtoeednnkadmjpaaDoorCards
import Derived.KernelRfl
import Derived.SevenTiedAt
namespace Go.Proofs.YtoeednnkadmjpaaDoor
open Go

theorem doorMain : Tryd.pinned.checked.prog.mainIs = some (Rows.fnExactUnitSeriesCard.stood.harness.1, Rows.fnExactUnitSeriesCard.stood.harness.2.toList) := by kernel_rfl
end Go.Proofs.YtoeednnkadmjpaaDoor
