/-
  A closed fact of this seat's translation, in a text of its own for Lean's memory: its looks.
-/
import Derived.Test.YtnjkcejifoehpaaDoorRows
import Derived.Test.YtnjkcejifoehpaaDoorCards
import Derived.KernelRfl
import Derived.SevenTiedAt
namespace Go.Proofs.YtnjkcejifoehpaaDoor
open Go

theorem doorLooks : Rows.fnExactLetterSeriesCard.stood.looks = Tryd.pinned.checked.prog.looks [] := by kernel_rfl
end Go.Proofs.YtnjkcejifoehpaaDoor
