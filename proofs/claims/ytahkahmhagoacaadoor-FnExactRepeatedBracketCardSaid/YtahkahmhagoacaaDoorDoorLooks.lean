/-
  A closed fact of this seat's translation, in a text of its own for Lean's memory: its looks.
-/
import Derived.Test.YtahkahmhagoacaaDoorRows
import Derived.Test.YtahkahmhagoacaaDoorCards
import Derived.KernelRfl
import Derived.SevenTiedAt
namespace Go.Proofs.YtahkahmhagoacaaDoor
open Go

theorem doorLooks : Rows.fnExactMultiplySeriesCard.stood.looks = Tryd.pinned.checked.prog.looks [] := by kernel_rfl
end Go.Proofs.YtahkahmhagoacaaDoor
