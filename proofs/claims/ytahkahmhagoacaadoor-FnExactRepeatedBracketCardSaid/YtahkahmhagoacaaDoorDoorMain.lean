/-
  A closed fact of this seat's translation, in a text of its own for Lean's memory: its main.
-/
import Derived.Test.YtahkahmhagoacaaDoorRows
import Derived.Test.YtahkahmhagoacaaDoorCards
import Derived.KernelRfl
import Derived.SevenTiedAt
namespace Go.Proofs.YtahkahmhagoacaaDoor
open Go

theorem doorMain : Tryd.pinned.checked.prog.mainIs = some (Rows.fnExactMultiplySeriesCard.stood.harness.1, Rows.fnExactMultiplySeriesCard.stood.harness.2.toList) := by kernel_rfl
end Go.Proofs.YtahkahmhagoacaaDoor
