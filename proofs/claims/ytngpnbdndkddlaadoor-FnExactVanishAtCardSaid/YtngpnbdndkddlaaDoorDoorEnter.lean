/-
  A closed fact of this seat's translation, in a text of its own for Lean's memory: it may be entered.
-/
import Derived.Test.YtngpnbdndkddlaaDoorRows
import Derived.KernelRfl
import Derived.WalkKit
import Derived.ProofKit
import Derived.Stop.Joined
namespace Go.Proofs.YtngpnbdndkddlaaDoor
open Go.RowKit

theorem doorEnter : Tryd.pinned.checked.prog.mayEnter = true := by kernel_rfl
end Go.Proofs.YtngpnbdndkddlaaDoor
