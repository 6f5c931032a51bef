/-
  'FnLyndons' returns true at every input: the program and the model say the same at whatever is drawn; factors make the word, are Lyndon words and don't rise; cuts leave two that rise; lists have as many words as are counted. No condition.
-/
import Derived.Test.YtolbgdgoambliaaLawFnLyndons
import Derived.Test.YtolbgdgoambliaaOpenB
namespace Go.Proofs.Ytolbgdgoambliaa
open Go.ChangeShapes Go.WideShapes Go.ChangeAt Go.RowKit

theorem main_FnLyndons (a0 : Option Addr) (cap0 : Nat) (ps0 : List Int) (hl0 : ∀ z ∈ ps0, 0 ≤ z ∧ z ≤ 255) (w : World) (hr0 : BRow w.heap.size w a0 ps0) :
    Calls Try.prog 3 #[.slice a0 ps0.length cap0] w fun e w' => e = .returned (.bool true) ∧ Below w.heap.size w w' :=
  law_FnLyndons a0 cap0 ps0 w hr0 hl0

namespace fnLyndons
end fnLyndons
end Go.Proofs.Ytolbgdgoambliaa
