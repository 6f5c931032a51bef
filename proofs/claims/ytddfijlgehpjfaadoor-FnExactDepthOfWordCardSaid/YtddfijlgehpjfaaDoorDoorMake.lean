/-
  A closed fact of this seat's translation, in a text of its own for Lean's memory: its make.
  A closed fact of this seat's translation, in a text of its own for Lean's memory: its main.
-/
import Derived.Test.YtddfijlgehpjfaaDoorRows
import Derived.Test.YtddfijlgehpjfaaDoorCards
import Derived.KernelRfl
import Derived.WalkKit
import Derived.ProofKit
import Derived.Stop.Joined
import Derived.SevenTiedAt
namespace Go.Proofs.YtddfijlgehpjfaaDoor
open Go.RowKit

theorem doorMake : (Tryd.pinned.checked.prog.make == some Rows.fnExactSignatureOfWordRow.make) = true := by kernel_rfl
end Go.Proofs.YtddfijlgehpjfaaDoor

namespace Go.Proofs.YtddfijlgehpjfaaDoor
open Go

theorem doorMain : Tryd.pinned.checked.prog.mainIs = some (Rows.fnExactSignatureOfWordCard.stood.harness.1, Rows.fnExactSignatureOfWordCard.stood.harness.2.toList) := by kernel_rfl
end Go.Proofs.YtddfijlgehpjfaaDoor
