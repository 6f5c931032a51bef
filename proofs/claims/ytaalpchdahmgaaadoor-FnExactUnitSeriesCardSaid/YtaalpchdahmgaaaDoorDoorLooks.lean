/-
  A closed fact of this seat's translation, in a text of its own for Lean's memory: its looks.
-/
import Derived.Test.YtaalpchdahmgaaaDoorRows
import Derived.Test.YtaalpchdahmgaaaDoorCards
import Derived.KernelRfl
import Derived.SevenTiedAt
namespace Go.Proofs.YtaalpchdahmgaaaDoor
open Go

theorem doorLooks : Rows.fnExactWordsOfCard.stood.looks = Tryd.pinned.checked.prog.looks [] := by kernel_rfl
end Go.Proofs.YtaalpchdahmgaaaDoor
