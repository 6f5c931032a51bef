/-
  A closed fact of this seat's translation, in a text of its own for Lean's memory: its make.
-/
import Derived.Test.YtoeednnkadmjpaaDoorRows
import Derived.KernelRfl
import Derived.WalkKit
import Derived.ProofKit
import Derived.Stop.Joined
namespace Go.Proofs.YtoeednnkadmjpaaDoor
open Go.RowKit

theorem doorMake : (Tryd.pinned.checked.prog.make == some Rows.fnExactUnitSeriesRow.make) = true := by kernel_rfl
end Go.Proofs.YtoeednnkadmjpaaDoor
