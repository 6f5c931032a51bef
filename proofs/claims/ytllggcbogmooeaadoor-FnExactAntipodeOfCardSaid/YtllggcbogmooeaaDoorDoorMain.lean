/-
  A closed fact of this seat's translation, in a text of its own for Lean's memory: its main.
-/
import Derived.Test.YtllggcbogmooeaaDoorRows
import Derived.Test.YtllggcbogmooeaaDoorCards
import Derived.KernelRfl
import Derived.SevenTiedAt
namespace Go.Proofs.YtllggcbogmooeaaDoor
open Go

theorem doorMain : Tryd.pinned.checked.prog.mainIs = some (Rows.fnExactReversalOfCard.stood.harness.1, Rows.fnExactReversalOfCard.stood.harness.2.toList) := by kernel_rfl
end Go.Proofs.YtllggcbogmooeaaDoor
