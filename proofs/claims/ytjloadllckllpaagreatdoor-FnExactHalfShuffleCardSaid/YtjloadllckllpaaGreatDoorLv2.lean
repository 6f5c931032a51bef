/-
  The model's test for letters and levels of chapter 2.
-/
import Derived.Test.YtjloadllckllpaaGreatDoorImpIs
namespace Go.Proofs.YtjloadllckllpaaGreatDoor
open Go.RowKit

end Go.Proofs.YtjloadllckllpaaGreatDoor
