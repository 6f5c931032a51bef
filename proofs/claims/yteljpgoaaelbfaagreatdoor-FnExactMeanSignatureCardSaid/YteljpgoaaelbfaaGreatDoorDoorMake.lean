/-
  A closed fact of this seat's translation, in a text of its own for Lean's memory: its make.
  A closed fact of this seat's translation, in a text of its own for Lean's memory: its main.
-/
import Derived.Test.YteljpgoaaelbfaaGreatDoorRows
import Derived.Test.YteljpgoaaelbfaaGreatDoorCards
import Derived.KernelRfl
import Derived.WalkKit
import Derived.ProofKit
import Derived.Stop.Joined
import Derived.SevenTiedAt
namespace Go.Proofs.YteljpgoaaelbfaaGreatDoor
open Go.RowKit

theorem doorMake : (Tryz.pinned.checked.prog.make == some Rows.fnExactMeanSignatureRow.make) = true := by kernel_rfl
end Go.Proofs.YteljpgoaaelbfaaGreatDoor

namespace Go.Proofs.YteljpgoaaelbfaaGreatDoor
open Go

theorem doorMain : Tryz.pinned.checked.prog.mainIs = some (Rows.fnExactMeanSignatureCard.stood.harness.1, Rows.fnExactMeanSignatureCard.stood.harness.2.toList) := by kernel_rfl
end Go.Proofs.YteljpgoaaelbfaaGreatDoor
