/-
  A closed fact of this seat's translation, in a text of its own for Lean's memory: its looks.
-/
import Derived.Test.YtnlapfclmpilaaaDoorRows
import Derived.Test.YtnlapfclmpilaaaDoorCards
import Derived.KernelRfl
import Derived.SevenTiedAt
namespace Go.Proofs.YtnlapfclmpilaaaDoor
open Go

theorem doorLooks : Rows.fnExactDegreesOfCard.stood.looks = Tryd.pinned.checked.prog.looks [] := by kernel_rfl
end Go.Proofs.YtnlapfclmpilaaaDoor
