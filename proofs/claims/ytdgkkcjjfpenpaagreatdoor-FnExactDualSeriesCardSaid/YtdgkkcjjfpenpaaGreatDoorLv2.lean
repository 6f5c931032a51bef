/-
  The model's test for letters and levels of chapter 2.
-/
import Derived.Test.YtdgkkcjjfpenpaaGreatDoorImpIs
namespace Go.Proofs.YtdgkkcjjfpenpaaGreatDoor
open Go.RowKit

end Go.Proofs.YtdgkkcjjfpenpaaGreatDoor
