/-
  A closed fact of this seat's translation, in a text of its own for Lean's memory: its make.
  A closed fact of this seat's translation, in a text of its own for Lean's memory: its main.
-/
import Derived.Test.YtgcjpenlcokgjaaGreatDoorRows
import Derived.Test.YtgcjpenlcokgjaaGreatDoorCards
import Derived.KernelRfl
import Derived.WalkKit
import Derived.ProofKit
import Derived.Stop.Joined
import Derived.SevenTiedAt
namespace Go.Proofs.YtgcjpenlcokgjaaGreatDoor
open Go.RowKit

theorem doorMake : (Tryz.pinned.checked.prog.make == some Rows.fnExactSeriesOfCoordinatesRow.make) = true := by kernel_rfl
end Go.Proofs.YtgcjpenlcokgjaaGreatDoor

namespace Go.Proofs.YtgcjpenlcokgjaaGreatDoor
open Go

theorem doorMain : Tryz.pinned.checked.prog.mainIs = some (Rows.fnExactSeriesOfCoordinatesCard.stood.harness.1, Rows.fnExactSeriesOfCoordinatesCard.stood.harness.2.toList) := by kernel_rfl
end Go.Proofs.YtgcjpenlcokgjaaGreatDoor
