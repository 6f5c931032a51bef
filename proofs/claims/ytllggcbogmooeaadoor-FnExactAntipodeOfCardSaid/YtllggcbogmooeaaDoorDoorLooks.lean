/-
  A closed fact of this seat's translation, in a text of its own for Lean's memory: its looks.
-/
import Derived.Test.YtllggcbogmooeaaDoorRows
import Derived.Test.YtllggcbogmooeaaDoorCards
import Derived.KernelRfl
import Derived.SevenTiedAt
namespace Go.Proofs.YtllggcbogmooeaaDoor
open Go

theorem doorLooks : Rows.fnExactReversalOfCard.stood.looks = Tryd.pinned.checked.prog.looks [] := by kernel_rfl
end Go.Proofs.YtllggcbogmooeaaDoor
