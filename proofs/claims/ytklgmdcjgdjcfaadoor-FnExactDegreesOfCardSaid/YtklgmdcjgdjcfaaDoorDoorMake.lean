/-
  A closed fact of this seat's translation, in a text of its own for Lean's memory: its make.
  A closed fact of this seat's translation, in a text of its own for Lean's memory: its main.
-/
import Derived.Test.YtklgmdcjgdjcfaaDoorRows
import Derived.Test.YtklgmdcjgdjcfaaDoorCards
import Derived.KernelRfl
import Derived.WalkKit
import Derived.ProofKit
import Derived.Stop.Joined
import Derived.SevenTiedAt
namespace Go.Proofs.YtklgmdcjgdjcfaaDoor
open Go.RowKit

theorem doorMake : (Tryd.pinned.checked.prog.make == some Rows.fnExactDegreesOfRow.make) = true := by kernel_rfl
end Go.Proofs.YtklgmdcjgdjcfaaDoor

namespace Go.Proofs.YtklgmdcjgdjcfaaDoor
open Go

theorem doorMain : Tryd.pinned.checked.prog.mainIs = some (Rows.fnExactDegreesOfCard.stood.harness.1, Rows.fnExactDegreesOfCard.stood.harness.2.toList) := by kernel_rfl
end Go.Proofs.YtklgmdcjgdjcfaaDoor
