/-
  ShuffleWords where it gives no words: contracts of both sides.
-/
import Derived.Test.YtmcmbhnkkloknaaDoorShuI
import Derived.Test.YtmcmbhnkkloknaaDoorShuW
import Derived.Test.YtmcmbhnkkloknaaDoorImpIs
import Derived.Test.YtmcmbhnkkloknaaDoorRes
namespace Go.Proofs.YtmcmbhnkkloknaaDoor
open Go.RowKit
set_option linter.unusedVariables false

/-- the code of ShuffleWords -/
def swC (d n : Int) (v w : ByteArray) : Int := if shapeB d n && wordB d v.data.toList && wordB d w.data.toList && decide ((v.size : Int) ≤ n) && decide ((w.size : Int) ≤ n) then 0 else 2
end Go.Proofs.YtmcmbhnkkloknaaDoor
