/-
  A closed fact of this seat's translation, in a text of its own for Lean's memory: what it lifts.
-/
import Derived.Test.YtoeednnkadmjpaaGreatDoorRows
import Derived.KernelRfl
import Derived.WalkKit
import Derived.ProofKit
import Derived.Stop.Joined
namespace Go.Proofs.YtoeednnkadmjpaaGreatDoor
open Go.RowKit

theorem doorLifts : (Rows.fnExactInverseSeriesRow.lifted == Tryz.pinned.checked.prog.liftsFinal) = true := by kernel_rfl
end Go.Proofs.YtoeednnkadmjpaaGreatDoor
