/-
  A closed fact of this seat's translation, in a text of its own for Lean's memory: its main.
-/
import Derived.Test.YtngpnbdndkddlaaDoorRows
import Derived.Test.YtngpnbdndkddlaaDoorCards
import Derived.KernelRfl
import Derived.SevenTiedAt
namespace Go.Proofs.YtngpnbdndkddlaaDoor
open Go

theorem doorMain : Tryd.pinned.checked.prog.mainIs = some (Rows.fnExactStepSignatureCard.stood.harness.1, Rows.fnExactStepSignatureCard.stood.harness.2.toList) := by kernel_rfl
end Go.Proofs.YtngpnbdndkddlaaDoor
