/-
  'FnExactWordsOf' returns true at every input for which the two functions' contracts stand: the program's WordsOf and its model's return the same words and code, in memory of its own.
-/
import Derived.Test.YtahkahmhagoacaaDoorStr
import Derived.Test.YtahkahmhagoacaaDoorRes
namespace Go.Proofs.YtahkahmhagoacaaDoor
open Go.RowKit

/-- what a function that returns words and a code comes to -/
def StrPost (ss : List ByteArray) (c : Int) (W : World) (e : Ending) (w' : World) : Prop :=
  ∃ (a : Option Addr) (cap : Nat), e = .returned (.tuple #[.slice a ss.length cap, .int .i64 c]) ∧ Below W.heap.size W w' ∧ NewS W.heap.size w'.heap.size w' a ss

end Go.Proofs.YtahkahmhagoacaaDoor
