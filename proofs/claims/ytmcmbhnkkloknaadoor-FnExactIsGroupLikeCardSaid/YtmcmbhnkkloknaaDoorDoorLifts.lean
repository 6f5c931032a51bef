/-
  A closed fact of this seat's translation, in a text of its own for Lean's memory: what it lifts.
  A closed fact of this seat's translation, in a text of its own for Lean's memory: it may be entered.
-/
import Derived.Test.YtmcmbhnkkloknaaDoorRows
import Derived.KernelRfl
import Derived.WalkKit
import Derived.ProofKit
import Derived.Stop.Joined
namespace Go.Proofs.YtmcmbhnkkloknaaDoor
open Go.RowKit

theorem doorLifts : (Rows.fnExactIsGroupLikeRow.lifted == Tryd.pinned.checked.prog.liftsFinal) = true := by kernel_rfl
end Go.Proofs.YtmcmbhnkkloknaaDoor

namespace Go.Proofs.YtmcmbhnkkloknaaDoor
open Go.RowKit

theorem doorEnter : Tryd.pinned.checked.prog.mayEnter = true := by kernel_rfl
end Go.Proofs.YtmcmbhnkkloknaaDoor
