/-
  A closed fact of this seat's translation, in a text of its own for Lean's memory: its make.
-/
import Derived.Test.YtnjkcejifoehpaaDoorRows
import Derived.KernelRfl
import Derived.WalkKit
import Derived.ProofKit
import Derived.Stop.Joined
namespace Go.Proofs.YtnjkcejifoehpaaDoor
open Go.RowKit

theorem doorMake : (Tryd.pinned.checked.prog.make == some Rows.fnExactLetterSeriesRow.make) = true := by kernel_rfl
end Go.Proofs.YtnjkcejifoehpaaDoor
