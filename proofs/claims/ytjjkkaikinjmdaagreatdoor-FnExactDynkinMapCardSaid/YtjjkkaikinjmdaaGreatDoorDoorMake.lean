/-
  A closed fact of this seat's translation, in a text of its own for Lean's memory: its make.
  A closed fact of this seat's translation, in a text of its own for Lean's memory: its main.
-/
import Derived.Test.YtjjkkaikinjmdaaGreatDoorRows
import Derived.Test.YtjjkkaikinjmdaaGreatDoorCards
import Derived.KernelRfl
import Derived.WalkKit
import Derived.ProofKit
import Derived.Stop.Joined
import Derived.SevenTiedAt
namespace Go.Proofs.YtjjkkaikinjmdaaGreatDoor
open Go.RowKit

theorem doorMake : (Tryz.pinned.checked.prog.make == some Rows.fnExactDynkinMapRow.make) = true := by kernel_rfl
end Go.Proofs.YtjjkkaikinjmdaaGreatDoor

namespace Go.Proofs.YtjjkkaikinjmdaaGreatDoor
open Go

theorem doorMain : Tryz.pinned.checked.prog.mainIs = some (Rows.fnExactDynkinMapCard.stood.harness.1, Rows.fnExactDynkinMapCard.stood.harness.2.toList) := by kernel_rfl
end Go.Proofs.YtjjkkaikinjmdaaGreatDoor
