/-
  A closed fact of this seat's translation, in a text of its own for Lean's memory: its looks.
-/
import Derived.Test.YtimakdejccaanaaDoorRows
import Derived.Test.YtimakdejccaanaaDoorCards
import Derived.KernelRfl
import Derived.SevenTiedAt
namespace Go.Proofs.YtimakdejccaanaaDoor
open Go

theorem doorLooks : Rows.fnExactFractionTextCard.stood.looks = Tryd.pinned.checked.prog.looks [] := by kernel_rfl
end Go.Proofs.YtimakdejccaanaaDoor
