/-
  A closed fact of this seat's translation, in a text of its own for Lean's memory: what it lifts.
-/
import Derived.Test.YtnlapfclmpilaaaDoorRows
import Derived.KernelRfl
import Derived.WalkKit
import Derived.ProofKit
import Derived.Stop.Joined
namespace Go.Proofs.YtnlapfclmpilaaaDoor
open Go.RowKit

theorem doorLifts : (Rows.fnExactDegreesOfRow.lifted == Tryd.pinned.checked.prog.liftsFinal) = true := by kernel_rfl
end Go.Proofs.YtnlapfclmpilaaaDoor
