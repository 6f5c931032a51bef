/-
  A closed fact of this seat's translation, in a text of its own for Lean's memory: its main.
-/
import Derived.Test.YtnjkcejifoehpaaDoorRows
import Derived.Test.YtnjkcejifoehpaaDoorCards
import Derived.KernelRfl
import Derived.SevenTiedAt
namespace Go.Proofs.YtnjkcejifoehpaaDoor
open Go

theorem doorMain : Tryd.pinned.checked.prog.mainIs = some (Rows.fnExactLetterSeriesCard.stood.harness.1, Rows.fnExactLetterSeriesCard.stood.harness.2.toList) := by kernel_rfl
end Go.Proofs.YtnjkcejifoehpaaDoor
