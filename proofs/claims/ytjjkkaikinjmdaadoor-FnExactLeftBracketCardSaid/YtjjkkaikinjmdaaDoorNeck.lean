/-
  Contracts of NecklaceOf, of the program and of its model.
-/
import Derived.Test.YtjjkkaikinjmdaaDoorLyn
import Derived.Test.YtjjkkaikinjmdaaDoorNeckM
import Derived.Test.YtjjkkaikinjmdaaDoorShelf
import Derived.Test.YtjjkkaikinjmdaaDoorShut
namespace Go.Proofs.YtjjkkaikinjmdaaDoor
open Go.RowKit

theorem cloneS_c (s : ByteArray) (hs : s.size ≤ 1048576) (w : World) :
    Calls Tryd.prog 54 #[.string s] w fun e w' => e = .returned (.string s) ∧ Below w.heap.size w w' := by
  go_enter Tryd.func54, Tryd.ntmps54
  go_wp2_with fail
  refine (Tryd.stringslite_Clone s _ (by omega)).mono ?_
  rintro e w' ⟨rfl, hb⟩
  go_wp2
  go_ret
  exact ⟨rfl, hb⟩

/-- what a function that returns a text and a code comes to -/
def TextPost (s : ByteArray) (c : Int) (W : World) (e : Ending) (w' : World) : Prop := e = .returned (.tuple #[.string s, .int .i64 c]) ∧ Below W.heap.size W w'

end Go.Proofs.YtjjkkaikinjmdaaDoor
