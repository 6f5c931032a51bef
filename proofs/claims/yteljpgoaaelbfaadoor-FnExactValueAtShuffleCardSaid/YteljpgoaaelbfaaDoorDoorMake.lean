/-
  A closed fact of this seat's translation, in a text of its own for Lean's memory: its make.
  A closed fact of this seat's translation, in a text of its own for Lean's memory: its main.
-/
import Derived.Test.YteljpgoaaelbfaaDoorRows
import Derived.Test.YteljpgoaaelbfaaDoorCards
import Derived.KernelRfl
import Derived.WalkKit
import Derived.ProofKit
import Derived.Stop.Joined
import Derived.SevenTiedAt
namespace Go.Proofs.YteljpgoaaelbfaaDoor
open Go.RowKit

theorem doorMake : (Tryd.pinned.checked.prog.make == some Rows.fnExactShuffleWordsRow.make) = true := by kernel_rfl
end Go.Proofs.YteljpgoaaelbfaaDoor

namespace Go.Proofs.YteljpgoaaelbfaaDoor
open Go

theorem doorMain : Tryd.pinned.checked.prog.mainIs = some (Rows.fnExactShuffleWordsCard.stood.harness.1, Rows.fnExactShuffleWordsCard.stood.harness.2.toList) := by kernel_rfl
end Go.Proofs.YteljpgoaaelbfaaDoor
