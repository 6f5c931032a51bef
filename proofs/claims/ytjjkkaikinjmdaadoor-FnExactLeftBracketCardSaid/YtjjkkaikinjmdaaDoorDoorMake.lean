/-
  A closed fact of this seat's translation, in a text of its own for Lean's memory: its make.
  A closed fact of this seat's translation, in a text of its own for Lean's memory: its main.
-/
import Derived.Test.YtjjkkaikinjmdaaDoorRows
import Derived.Test.YtjjkkaikinjmdaaDoorCards
import Derived.KernelRfl
import Derived.WalkKit
import Derived.ProofKit
import Derived.Stop.Joined
import Derived.SevenTiedAt
namespace Go.Proofs.YtjjkkaikinjmdaaDoor
open Go.RowKit

theorem doorMake : (Tryd.pinned.checked.prog.make == some Rows.fnExactBracketOfRow.make) = true := by kernel_rfl
end Go.Proofs.YtjjkkaikinjmdaaDoor

namespace Go.Proofs.YtjjkkaikinjmdaaDoor
open Go

theorem doorMain : Tryd.pinned.checked.prog.mainIs = some (Rows.fnExactBracketOfCard.stood.harness.1, Rows.fnExactBracketOfCard.stood.harness.2.toList) := by kernel_rfl
end Go.Proofs.YtjjkkaikinjmdaaDoor
