/-
  A closed fact of this seat's translation, in a text of its own for Lean's memory: its make.
  A closed fact of this seat's translation, in a text of its own for Lean's memory: its main.
-/
import Derived.Test.YtlkeifaiohaehaaDoorRows
import Derived.Test.YtlkeifaiohaehaaDoorCards
import Derived.KernelRfl
import Derived.WalkKit
import Derived.ProofKit
import Derived.Stop.Joined
import Derived.SevenTiedAt
namespace Go.Proofs.YtlkeifaiohaehaaDoor
open Go.RowKit

theorem doorMake : (Tryd.pinned.checked.prog.make == some Rows.fnExactWordOfNumberRow.make) = true := by kernel_rfl
end Go.Proofs.YtlkeifaiohaehaaDoor

namespace Go.Proofs.YtlkeifaiohaehaaDoor
open Go

theorem doorMain : Tryd.pinned.checked.prog.mainIs = some (Rows.fnExactWordOfNumberCard.stood.harness.1, Rows.fnExactWordOfNumberCard.stood.harness.2.toList) := by kernel_rfl
end Go.Proofs.YtlkeifaiohaehaaDoor
