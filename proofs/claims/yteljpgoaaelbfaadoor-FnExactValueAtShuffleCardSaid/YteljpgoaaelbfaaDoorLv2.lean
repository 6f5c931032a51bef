/-
  The model's test for letters and levels of chapter 2.
-/
import Derived.Test.YteljpgoaaelbfaaDoorImpIs
namespace Go.Proofs.YteljpgoaaelbfaaDoor
open Go.RowKit

end Go.Proofs.YteljpgoaaelbfaaDoor
