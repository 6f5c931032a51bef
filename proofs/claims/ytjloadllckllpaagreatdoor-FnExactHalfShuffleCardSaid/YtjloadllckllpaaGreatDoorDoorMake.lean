/-
  A closed fact of this seat's translation, in a text of its own for Lean's memory: its make.
  A closed fact of this seat's translation, in a text of its own for Lean's memory: its main.
-/
import Derived.Test.YtjloadllckllpaaGreatDoorRows
import Derived.Test.YtjloadllckllpaaGreatDoorCards
import Derived.KernelRfl
import Derived.WalkKit
import Derived.ProofKit
import Derived.Stop.Joined
import Derived.SevenTiedAt
namespace Go.Proofs.YtjloadllckllpaaGreatDoor
open Go.RowKit

theorem doorMake : (Tryz.pinned.checked.prog.make == some Rows.fnExactShuffleSeriesRow.make) = true := by kernel_rfl
end Go.Proofs.YtjloadllckllpaaGreatDoor

namespace Go.Proofs.YtjloadllckllpaaGreatDoor
open Go

theorem doorMain : Tryz.pinned.checked.prog.mainIs = some (Rows.fnExactShuffleSeriesCard.stood.harness.1, Rows.fnExactShuffleSeriesCard.stood.harness.2.toList) := by kernel_rfl
end Go.Proofs.YtjloadllckllpaaGreatDoor
