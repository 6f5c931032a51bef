/-
  A closed fact of this seat's translation, in a text of its own for Lean's memory: its main.
-/
import Derived.Test.YtimakdejccaanaaDoorRows
import Derived.Test.YtimakdejccaanaaDoorCards
import Derived.KernelRfl
import Derived.SevenTiedAt
namespace Go.Proofs.YtimakdejccaanaaDoor
open Go

theorem doorMain : Tryd.pinned.checked.prog.mainIs = some (Rows.fnExactFractionTextCard.stood.harness.1, Rows.fnExactFractionTextCard.stood.harness.2.toList) := by kernel_rfl
end Go.Proofs.YtimakdejccaanaaDoor
