/-
  A closed fact of this seat's translation, in a text of its own for Lean's memory: what it lifts.
  A closed fact of this seat's translation, in a text of its own for Lean's memory: it may be entered.
-/
import Derived.Test.YtaliafbolofkfaaDoorRows
import Derived.KernelRfl
import Derived.WalkKit
import Derived.ProofKit
import Derived.Stop.Joined
namespace Go.Proofs.YtaliafbolofkfaaDoor
open Go.RowKit

theorem doorLifts : (Rows.fnWordNumbersRow.lifted == Tryd.pinned.checked.prog.liftsFinal) = true := by kernel_rfl
end Go.Proofs.YtaliafbolofkfaaDoor

namespace Go.Proofs.YtaliafbolofkfaaDoor
open Go.RowKit

theorem doorEnter : Tryd.pinned.checked.prog.mayEnter = true := by kernel_rfl
end Go.Proofs.YtaliafbolofkfaaDoor
