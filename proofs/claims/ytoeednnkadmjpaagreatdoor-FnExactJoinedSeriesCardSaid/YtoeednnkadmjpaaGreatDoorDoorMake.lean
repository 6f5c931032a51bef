/-
  A closed fact of this seat's translation, in a text of its own for Lean's memory: its make.
-/
import Derived.Test.YtoeednnkadmjpaaGreatDoorRows
import Derived.KernelRfl
import Derived.WalkKit
import Derived.ProofKit
import Derived.Stop.Joined
namespace Go.Proofs.YtoeednnkadmjpaaGreatDoor
open Go.RowKit

theorem doorMake : (Tryz.pinned.checked.prog.make == some Rows.fnExactInverseSeriesRow.make) = true := by kernel_rfl
end Go.Proofs.YtoeednnkadmjpaaGreatDoor
