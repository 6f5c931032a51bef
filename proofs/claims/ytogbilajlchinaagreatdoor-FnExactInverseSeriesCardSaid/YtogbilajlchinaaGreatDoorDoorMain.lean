/-
  A closed fact of this seat's translation, in a text of its own for Lean's memory: its main.
-/
import Derived.Test.YtogbilajlchinaaGreatDoorRows
import Derived.Test.YtogbilajlchinaaGreatDoorCards
import Derived.KernelRfl
import Derived.SevenTiedAt
namespace Go.Proofs.YtogbilajlchinaaGreatDoor
open Go

theorem doorMain : Tryz.pinned.checked.prog.mainIs = some (Rows.fnExactExponentialOfCard.stood.harness.1, Rows.fnExactExponentialOfCard.stood.harness.2.toList) := by kernel_rfl
end Go.Proofs.YtogbilajlchinaaGreatDoor
