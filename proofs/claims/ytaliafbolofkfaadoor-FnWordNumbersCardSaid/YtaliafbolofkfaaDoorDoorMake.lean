/-
  A closed fact of this seat's translation, in a text of its own for Lean's memory: its make.
  A closed fact of this seat's translation, in a text of its own for Lean's memory: its main.
-/
import Derived.Test.YtaliafbolofkfaaDoorRows
import Derived.Test.YtaliafbolofkfaaDoorCards
import Derived.KernelRfl
import Derived.WalkKit
import Derived.ProofKit
import Derived.Stop.Joined
import Derived.SevenTiedAt
namespace Go.Proofs.YtaliafbolofkfaaDoor
open Go.RowKit

theorem doorMake : (Tryd.pinned.checked.prog.make == some Rows.fnWordNumbersRow.make) = true := by kernel_rfl
end Go.Proofs.YtaliafbolofkfaaDoor

namespace Go.Proofs.YtaliafbolofkfaaDoor
open Go

theorem doorMain : Tryd.pinned.checked.prog.mainIs = some (Rows.fnWordNumbersCard.stood.harness.1, Rows.fnWordNumbersCard.stood.harness.2.toList) := by kernel_rfl
end Go.Proofs.YtaliafbolofkfaaDoor
