/-
  DERIVED. GIVEN WITH THE SEED: THE CARDS: each row of YtnjkcejifoehpaaDoorRows.lean that lists a variable, with what it lists TIED to the program's text (the seventh form; the later family's looks); each row that meets fmt, with fmt's text TOLD by the authors' own Lean function (tested against real Go, not proved from fmt's source: count such statements apart). THE CARD IS WHAT COUNTS. Prove the row's statement (the work); the ties are given (YtnjkcejifoehpaaDoorTie.lean); close each card by the builder's one call (the guide's Derived/Test/ToyasCard.lean, 'card_holds'). Laid BY PROGRAM, IN A SANDBOX (cutbox-door.mjs). By AI agents, Wed Nov 11 2026. No macro, syntax, notation, axiom, sorry.
-/
import Derived.Test.YtnjkcejifoehpaaDoorRows
import GoSem.ClaimSeven
namespace Go.Proofs.YtnjkcejifoehpaaDoor
namespace Rows

/-- THE TIED CARD OF 'laws.FnExactLetterSeries'. -/
def fnExactLetterSeriesCard : Claim7 := { stood := { row := fnExactLetterSeriesRow, standIns := [], harness := (true, "905e1789e10ede2466257ab16ea3ac03356e6c9336da507ec94ea58bcc02826a"), looks := false }, kinds := [], alts := [], laidByText := true, laidKinds := [.data, .data, .data], laidTests := true, laidLooks := .later }
def FnExactLetterSeriesCardSaid : Prop := Claim7.holds Tryd.pinned (.plain (OpenSpec.ofChange fnExactLetterSeriesSpec)) fnExactLetterSeriesCard

/-- THE SECOND FORM's CARD OF 'laws.FnExactLetterSeries'. -/
def fnExactLetterSeriesUptoCard : Claim7 := { stood := { row := fnExactLetterSeriesUptoRow, standIns := [], harness := (true, "905e1789e10ede2466257ab16ea3ac03356e6c9336da507ec94ea58bcc02826a"), looks := false }, kinds := [], alts := [], laidByText := true, laidKinds := [.data, .data, .data], laidTests := true, laidLooks := .later }
def FnExactLetterSeriesUptoCardSaid : Prop := Claim7.holds Tryd.pinned (.plain (OpenSpec.upto fnExactLetterSeriesSpec)) fnExactLetterSeriesUptoCard
end Rows
end Go.Proofs.YtnjkcejifoehpaaDoor
