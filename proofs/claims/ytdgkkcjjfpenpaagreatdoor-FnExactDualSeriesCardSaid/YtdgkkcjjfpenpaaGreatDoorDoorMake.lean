/-
  A closed fact of this seat's translation, in a text of its own for Lean's memory: its make.
  A closed fact of this seat's translation, in a text of its own for Lean's memory: its main.
-/
import Derived.Test.YtdgkkcjjfpenpaaGreatDoorRows
import Derived.Test.YtdgkkcjjfpenpaaGreatDoorCards
import Derived.KernelRfl
import Derived.WalkKit
import Derived.ProofKit
import Derived.Stop.Joined
import Derived.SevenTiedAt
namespace Go.Proofs.YtdgkkcjjfpenpaaGreatDoor
open Go.RowKit

theorem doorMake : (Tryz.pinned.checked.prog.make == some Rows.fnExactDualSeriesRow.make) = true := by kernel_rfl
end Go.Proofs.YtdgkkcjjfpenpaaGreatDoor

namespace Go.Proofs.YtdgkkcjjfpenpaaGreatDoor
open Go

theorem doorMain : Tryz.pinned.checked.prog.mainIs = some (Rows.fnExactDualSeriesCard.stood.harness.1, Rows.fnExactDualSeriesCard.stood.harness.2.toList) := by kernel_rfl
end Go.Proofs.YtdgkkcjjfpenpaaGreatDoor
