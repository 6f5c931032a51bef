/-
  The model's test for letters and levels of chapter 2.
-/
import Derived.Test.YtknigggjnjkhbaaImpIs
namespace Go.Proofs.Ytknigggjnjkhbaa
open Go.RowKit

end Go.Proofs.Ytknigggjnjkhbaa
