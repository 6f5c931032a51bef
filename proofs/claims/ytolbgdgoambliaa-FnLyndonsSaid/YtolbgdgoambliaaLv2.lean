/-
  The model's test for letters and levels of chapter 2.
-/
import Derived.Test.YtolbgdgoambliaaImpIs
namespace Go.Proofs.Ytolbgdgoambliaa
open Go.RowKit

end Go.Proofs.Ytolbgdgoambliaa
