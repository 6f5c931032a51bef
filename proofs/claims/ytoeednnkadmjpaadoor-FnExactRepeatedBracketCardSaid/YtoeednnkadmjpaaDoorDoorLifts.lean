/-
  A closed fact of this seat's translation, in a text of its own for Lean's memory: what it lifts.
-/
import Derived.Test.YtoeednnkadmjpaaDoorRows
import Derived.KernelRfl
import Derived.WalkKit
import Derived.ProofKit
import Derived.Stop.Joined
namespace Go.Proofs.YtoeednnkadmjpaaDoor
open Go.RowKit

theorem doorLifts : (Rows.fnExactUnitSeriesRow.lifted == Tryd.pinned.checked.prog.liftsFinal) = true := by kernel_rfl
end Go.Proofs.YtoeednnkadmjpaaDoor
