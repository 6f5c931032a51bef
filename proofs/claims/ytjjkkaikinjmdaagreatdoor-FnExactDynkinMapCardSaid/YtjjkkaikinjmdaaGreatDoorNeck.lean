/-
  Contracts of NecklaceOf, of the program and of its model.
-/
import Derived.Test.YtjjkkaikinjmdaaGreatDoorLyn
import Derived.Test.YtjjkkaikinjmdaaGreatDoorNeckM
import Derived.Test.YtjjkkaikinjmdaaGreatDoorShelf
import Derived.Test.YtjjkkaikinjmdaaGreatDoorShut
namespace Go.Proofs.YtjjkkaikinjmdaaGreatDoor
open Go.RowKit

theorem cloneS_c (s : ByteArray) (hs : s.size ≤ 1048576) (w : World) :
    Calls Tryz.prog 90 #[.string s] w fun e w' => e = .returned (.string s) ∧ Below w.heap.size w w' := by
  go_enter Tryz.func90, Tryz.ntmps90
  go_wp2_with fail
  refine (Tryz.stringslite_Clone s _ (by omega)).mono ?_
  rintro e w' ⟨rfl, hb⟩
  go_wp2
  go_ret
  exact ⟨rfl, hb⟩

/-- what a function that returns a text and a code comes to -/
def TextPost (s : ByteArray) (c : Int) (W : World) (e : Ending) (w' : World) : Prop := e = .returned (.tuple #[.string s, .int .i64 c]) ∧ Below W.heap.size W w'

end Go.Proofs.YtjjkkaikinjmdaaGreatDoor
