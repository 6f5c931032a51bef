/-
  The model's test for letters and levels of chapter 2.
-/
import Derived.Test.YtgcjpenlcokgjaaImpIs
namespace Go.Proofs.Ytgcjpenlcokgjaa
open Go.RowKit

end Go.Proofs.Ytgcjpenlcokgjaa
