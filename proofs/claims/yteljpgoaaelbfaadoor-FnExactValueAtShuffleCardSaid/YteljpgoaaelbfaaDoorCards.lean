/-
  DERIVED. GIVEN WITH THE SEED: THE CARDS: each row of YteljpgoaaelbfaaDoorRows.lean that lists a variable, with what it lists TIED to the program's text (the seventh form; the later family's looks); each row that meets fmt, with fmt's text TOLD by the authors' own Lean function (tested against real Go, not proved from fmt's source: count such statements apart). THE CARD IS WHAT COUNTS. Prove the row's statement (the work); the ties are given (YteljpgoaaelbfaaDoorTie.lean); close each card by the builder's one call (the guide's Derived/Test/ToyasCard.lean, 'card_holds'). Laid BY PROGRAM, IN A SANDBOX (cutbox-door.mjs). By AI agents, Wed Nov 11 2026. No macro, syntax, notation, axiom, sorry.
-/
import Derived.Test.YteljpgoaaelbfaaDoorRows
import GoSem.ClaimSeven
namespace Go.Proofs.YteljpgoaaelbfaaDoor
namespace Rows

/-- THE TIED CARD OF 'laws.FnExactShuffleWords'. -/
def fnExactShuffleWordsCard : Claim7 := { stood := { row := fnExactShuffleWordsRow, standIns := [], harness := (true, "b17ddc356e69f44f636d17a1d01c312823c3871f6c7e15b738479ab2c1b14955"), looks := false }, kinds := [], alts := [], laidByText := true, laidKinds := [.data, .data, .data], laidTests := true, laidLooks := .later }
def FnExactShuffleWordsCardSaid : Prop := Claim7.holds Tryd.pinned (.plain (OpenSpec.ofChange fnExactShuffleWordsSpec)) fnExactShuffleWordsCard

/-- THE TIED CARD OF 'laws.FnExactValueAtShuffle'. -/
def fnExactValueAtShuffleCard : Claim7 := { stood := { row := fnExactValueAtShuffleRow, standIns := [], harness := (true, "b17ddc356e69f44f636d17a1d01c312823c3871f6c7e15b738479ab2c1b14955"), looks := false }, kinds := [], alts := [], laidByText := true, laidKinds := [.data, .data, .data], laidTests := true, laidLooks := .later }
def FnExactValueAtShuffleCardSaid : Prop := Claim7.holds Tryd.pinned (.plain (OpenSpec.ofChange fnExactValueAtShuffleSpec)) fnExactValueAtShuffleCard

/-- THE SECOND FORM's CARD OF 'laws.FnExactShuffleWords'. -/
def fnExactShuffleWordsUptoCard : Claim7 := { stood := { row := fnExactShuffleWordsUptoRow, standIns := [], harness := (true, "b17ddc356e69f44f636d17a1d01c312823c3871f6c7e15b738479ab2c1b14955"), looks := false }, kinds := [], alts := [], laidByText := true, laidKinds := [.data, .data, .data], laidTests := true, laidLooks := .later }
def FnExactShuffleWordsUptoCardSaid : Prop := Claim7.holds Tryd.pinned (.plain (OpenSpec.upto fnExactShuffleWordsSpec)) fnExactShuffleWordsUptoCard

/-- THE SECOND FORM's CARD OF 'laws.FnExactValueAtShuffle'. -/
def fnExactValueAtShuffleUptoCard : Claim7 := { stood := { row := fnExactValueAtShuffleUptoRow, standIns := [], harness := (true, "b17ddc356e69f44f636d17a1d01c312823c3871f6c7e15b738479ab2c1b14955"), looks := false }, kinds := [], alts := [], laidByText := true, laidKinds := [.data, .data, .data], laidTests := true, laidLooks := .later }
def FnExactValueAtShuffleUptoCardSaid : Prop := Claim7.holds Tryd.pinned (.plain (OpenSpec.upto fnExactValueAtShuffleSpec)) fnExactValueAtShuffleUptoCard
end Rows
end Go.Proofs.YteljpgoaaelbfaaDoor
