/-
  The model's test for letters and levels of chapter 2.
-/
import Derived.Test.YtmcmbhnkkloknaaDoorImpIs
namespace Go.Proofs.YtmcmbhnkkloknaaDoor
open Go.RowKit

end Go.Proofs.YtmcmbhnkkloknaaDoor
