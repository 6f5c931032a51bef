/-
  A closed fact of this seat's translation, in a text of its own for Lean's memory: its make.
  A closed fact of this seat's translation, in a text of its own for Lean's memory: its main.
-/
import Derived.Test.YtddfijlgehpjfaaGreatDoorRows
import Derived.Test.YtddfijlgehpjfaaGreatDoorCards
import Derived.KernelRfl
import Derived.WalkKit
import Derived.ProofKit
import Derived.Stop.Joined
import Derived.SevenTiedAt
namespace Go.Proofs.YtddfijlgehpjfaaGreatDoor
open Go.RowKit

theorem doorMake : (Tryz.pinned.checked.prog.make == some Rows.fnExactLeadingPartRow.make) = true := by kernel_rfl
end Go.Proofs.YtddfijlgehpjfaaGreatDoor

namespace Go.Proofs.YtddfijlgehpjfaaGreatDoor
open Go

theorem doorMain : Tryz.pinned.checked.prog.mainIs = some (Rows.fnExactLeadingPartCard.stood.harness.1, Rows.fnExactLeadingPartCard.stood.harness.2.toList) := by kernel_rfl
end Go.Proofs.YtddfijlgehpjfaaGreatDoor
