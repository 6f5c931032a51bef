/-
  A closed fact of this seat's translation, in a text of its own for Lean's memory: its make.
  A closed fact of this seat's translation, in a text of its own for Lean's memory: its main.
-/
import Derived.Test.YtlaaldpejjlbkaaDoorRows
import Derived.Test.YtlaaldpejjlbkaaDoorCards
import Derived.KernelRfl
import Derived.WalkKit
import Derived.ProofKit
import Derived.Stop.Joined
import Derived.SevenTiedAt
namespace Go.Proofs.YtlaaldpejjlbkaaDoor
open Go.RowKit

theorem doorMake : (Tryd.pinned.checked.prog.make == some Rows.fnExactKeepLettersRow.make) = true := by kernel_rfl
end Go.Proofs.YtlaaldpejjlbkaaDoor

namespace Go.Proofs.YtlaaldpejjlbkaaDoor
open Go

theorem doorMain : Tryd.pinned.checked.prog.mainIs = some (Rows.fnExactKeepLettersCard.stood.harness.1, Rows.fnExactKeepLettersCard.stood.harness.2.toList) := by kernel_rfl
end Go.Proofs.YtlaaldpejjlbkaaDoor
