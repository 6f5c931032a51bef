/-
  What every tied card of this seat shares: the door's own heap meets the condition on the three tables of numbers' texts, and has the shape that a start asks.
  A closed fact of this seat's translation, in a text of its own for Lean's memory: its looks.
-/
import Derived.Test.YtaliafbolofkfaaDoorTie
import Derived.Test.YtaliafbolofkfaaDoorCards
import Derived.Test.YtaliafbolofkfaaDoorRes
import Derived.Test.YtaliafbolofkfaaDoorRows
import Derived.LaidMore
import Derived.Stop.Joined
import Derived.SevenTiedAt
import Derived.KernelRfl
namespace Go.Proofs.YtaliafbolofkfaaDoor
open Go.ChangeShapes Go.WideShapes Go.ChangeAt Go.RowKit

theorem door_met3 (os : Os) (args : Array Value) : laidMetH Tryd.prog [("math/bits.deBruijn32tab", Rows.laid_math_bits_deBruijn32tab), ("math/bits.deBruijn64tab", Rows.laid_math_bits_deBruijn64tab), ("internal/strconv.uint64pow10", Rows.laid_internal_strconv_uint64pow10)] ((World.doorLaid Tryd.prog 400 os).forCall (fun _ _ => 0) ⟨#[], args, []⟩).memory :=
  laidMetH_of_parts3 (fuel := 8) (laidMet_of_run' 8 (by kernel_rfl) (by kernel_rfl)) (by kernel_rfl) (by kernel_rfl)
theorem door_shaped (os : Os) (args : Array Value) : ((World.doorLaid Tryd.prog 400 os).forCall (fun _ _ => 0) ⟨#[], args, []⟩).Shaped Tryd.prog :=
  World.shaped_of_RefB (by kernel_rfl) (by kernel_rfl)
end Go.Proofs.YtaliafbolofkfaaDoor

namespace Go.Proofs.YtaliafbolofkfaaDoor
open Go

theorem doorLooks : Rows.fnWordNumbersCard.stood.looks = Tryd.pinned.checked.prog.looks [] := by kernel_rfl
end Go.Proofs.YtaliafbolofkfaaDoor
