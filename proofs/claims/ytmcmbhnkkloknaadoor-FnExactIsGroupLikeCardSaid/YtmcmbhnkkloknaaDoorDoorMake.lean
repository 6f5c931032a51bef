/-
  A closed fact of this seat's translation, in a text of its own for Lean's memory: its make.
  A closed fact of this seat's translation, in a text of its own for Lean's memory: its main.
-/
import Derived.Test.YtmcmbhnkkloknaaDoorRows
import Derived.Test.YtmcmbhnkkloknaaDoorCards
import Derived.KernelRfl
import Derived.WalkKit
import Derived.ProofKit
import Derived.Stop.Joined
import Derived.SevenTiedAt
namespace Go.Proofs.YtmcmbhnkkloknaaDoor
open Go.RowKit

theorem doorMake : (Tryd.pinned.checked.prog.make == some Rows.fnExactIsGroupLikeRow.make) = true := by kernel_rfl
end Go.Proofs.YtmcmbhnkkloknaaDoor

namespace Go.Proofs.YtmcmbhnkkloknaaDoor
open Go

theorem doorMain : Tryd.pinned.checked.prog.mainIs = some (Rows.fnExactIsGroupLikeCard.stood.harness.1, Rows.fnExactIsGroupLikeCard.stood.harness.2.toList) := by kernel_rfl
end Go.Proofs.YtmcmbhnkkloknaaDoor
