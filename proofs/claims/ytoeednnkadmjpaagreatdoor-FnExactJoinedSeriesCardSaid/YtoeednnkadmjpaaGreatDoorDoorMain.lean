/-
  A closed fact of this seat's translation, in a text of its own for Lean's memory: its main.
-/
import Derived.Test.YtoeednnkadmjpaaGreatDoorRows
import Derived.Test.YtoeednnkadmjpaaGreatDoorCards
import Derived.KernelRfl
import Derived.SevenTiedAt
namespace Go.Proofs.YtoeednnkadmjpaaGreatDoor
open Go

theorem doorMain : Tryz.pinned.checked.prog.mainIs = some (Rows.fnExactInverseSeriesCard.stood.harness.1, Rows.fnExactInverseSeriesCard.stood.harness.2.toList) := by kernel_rfl
end Go.Proofs.YtoeednnkadmjpaaGreatDoor
