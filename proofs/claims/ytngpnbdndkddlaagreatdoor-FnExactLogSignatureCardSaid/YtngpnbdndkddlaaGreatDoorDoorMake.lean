/-
  A closed fact of this seat's translation, in a text of its own for Lean's memory: its make.
-/
import Derived.Test.YtngpnbdndkddlaaGreatDoorRows
import Derived.KernelRfl
import Derived.WalkKit
import Derived.ProofKit
import Derived.Stop.Joined
namespace Go.Proofs.YtngpnbdndkddlaaGreatDoor
open Go.RowKit

theorem doorMake : (Tryz.pinned.checked.prog.make == some Rows.fnExactSignatureOfRow.make) = true := by kernel_rfl
end Go.Proofs.YtngpnbdndkddlaaGreatDoor
