/-
  A closed fact of this seat's translation, in a text of its own for Lean's memory: its looks.
-/
import Derived.Test.YtdnojljhcpcheaaDoorRows
import Derived.Test.YtdnojljhcpcheaaDoorCards
import Derived.KernelRfl
import Derived.SevenTiedAt
namespace Go.Proofs.YtdnojljhcpcheaaDoor
open Go

theorem doorLooks : Rows.fnExactWordOfNumberCard.stood.looks = Tryd.pinned.checked.prog.looks [] := by kernel_rfl
end Go.Proofs.YtdnojljhcpcheaaDoor
