/-
  A closed fact of this seat's translation, in a text of its own for Lean's memory: what it lifts.
  A closed fact of this seat's translation, in a text of its own for Lean's memory: it may be entered.
-/
import Derived.Test.YtdgkkcjjfpenpaaGreatDoorRows
import Derived.KernelRfl
import Derived.WalkKit
import Derived.ProofKit
import Derived.Stop.Joined
namespace Go.Proofs.YtdgkkcjjfpenpaaGreatDoor
open Go.RowKit

theorem doorLifts : (Rows.fnExactDualSeriesRow.lifted == Tryz.pinned.checked.prog.liftsFinal) = true := by kernel_rfl
end Go.Proofs.YtdgkkcjjfpenpaaGreatDoor

namespace Go.Proofs.YtdgkkcjjfpenpaaGreatDoor
open Go.RowKit

theorem doorEnter : Tryz.pinned.checked.prog.mayEnter = true := by kernel_rfl
end Go.Proofs.YtdgkkcjjfpenpaaGreatDoor
