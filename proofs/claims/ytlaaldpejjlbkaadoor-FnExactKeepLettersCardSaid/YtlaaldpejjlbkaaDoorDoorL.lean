/-
  A closed fact of this seat's translation, in a text of its own for Lean's memory: its looks (for a seat whose tables are pinned: its rows lay their own witness).
-/
import Derived.Test.YtlaaldpejjlbkaaDoorTie
import Derived.Test.YtlaaldpejjlbkaaDoorCards
import Derived.Test.YtlaaldpejjlbkaaDoorShut
import Derived.Test.YtlaaldpejjlbkaaDoorRows
import Derived.LaidMore
import Derived.Stop.Joined
import Derived.SevenTiedAt
import Derived.KernelRfl
namespace Go.Proofs.YtlaaldpejjlbkaaDoor
open Go

theorem doorLooks : Rows.fnExactKeepLettersCard.stood.looks = Tryd.pinned.checked.prog.looks [] := by kernel_rfl
end Go.Proofs.YtlaaldpejjlbkaaDoor
