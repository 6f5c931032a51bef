/-
  A closed fact of this seat's translation, in a text of its own for Lean's memory: its main.
-/
import Derived.Test.YtngpnbdndkddlaaGreatDoorRows
import Derived.Test.YtngpnbdndkddlaaGreatDoorCards
import Derived.KernelRfl
import Derived.SevenTiedAt
namespace Go.Proofs.YtngpnbdndkddlaaGreatDoor
open Go

theorem doorMain : Tryz.pinned.checked.prog.mainIs = some (Rows.fnExactSignatureOfCard.stood.harness.1, Rows.fnExactSignatureOfCard.stood.harness.2.toList) := by kernel_rfl
end Go.Proofs.YtngpnbdndkddlaaGreatDoor
