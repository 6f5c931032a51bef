/-
  A closed fact of this seat's translation, in a text of its own for Lean's memory: its main.
-/
import Derived.Test.YtaalpchdahmgaaaDoorRows
import Derived.Test.YtaalpchdahmgaaaDoorCards
import Derived.KernelRfl
import Derived.SevenTiedAt
namespace Go.Proofs.YtaalpchdahmgaaaDoor
open Go

theorem doorMain : Tryd.pinned.checked.prog.mainIs = some (Rows.fnExactWordsOfCard.stood.harness.1, Rows.fnExactWordsOfCard.stood.harness.2.toList) := by kernel_rfl
end Go.Proofs.YtaalpchdahmgaaaDoor
