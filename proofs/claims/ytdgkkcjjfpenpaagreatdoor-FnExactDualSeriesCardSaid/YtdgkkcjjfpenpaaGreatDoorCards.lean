/-
  DERIVED. GIVEN WITH THE SEED: THE CARDS: each row of YtdgkkcjjfpenpaaGreatDoorRows.lean that lists a variable, with what it lists TIED to the program's text (the seventh form; the later family's looks); each row that meets fmt, with fmt's text TOLD by the authors' own Lean function (tested against real Go, not proved from fmt's source: count such statements apart). THE CARD IS WHAT COUNTS. Prove the row's statement (the work); the ties are given (YtdgkkcjjfpenpaaGreatDoorTie.lean); close each card by the builder's one call (the guide's Derived/Test/ToyasCard.lean, 'card_holds'). Laid BY PROGRAM, IN A SANDBOX (cutbox-door.mjs). By AI agents, Wed Nov 11 2026. No macro, syntax, notation, axiom, sorry.
-/
import Derived.Test.YtdgkkcjjfpenpaaGreatDoorRows
import GoSem.ClaimSeven
namespace Go.Proofs.YtdgkkcjjfpenpaaGreatDoor
namespace Rows

/-- THE TIED CARD OF 'laws.FnExactDualSeries'. -/
def fnExactDualSeriesCard : Claim7 := { stood := { row := fnExactDualSeriesRow, standIns := [], harness := (true, "28d591f40f845c5c0a468ddade16bd35c18ee87bd03df82fc133ae2801340799"), looks := true }, kinds := [], alts := [], laidByText := true, laidKinds := [.data, .data, .data], laidTests := true, laidLooks := .later }
def FnExactDualSeriesCardSaid : Prop := Claim7.holds Tryz.pinned (.plain (OpenSpec.ofChange fnExactDualSeriesSpec)) fnExactDualSeriesCard

/-- THE SECOND FORM's CARD OF 'laws.FnExactDualSeries'. -/
def fnExactDualSeriesUptoCard : Claim7 := { stood := { row := fnExactDualSeriesUptoRow, standIns := [], harness := (true, "28d591f40f845c5c0a468ddade16bd35c18ee87bd03df82fc133ae2801340799"), looks := true }, kinds := [], alts := [], laidByText := true, laidKinds := [.data, .data, .data], laidTests := true, laidLooks := .later }
def FnExactDualSeriesUptoCardSaid : Prop := Claim7.holds Tryz.pinned (.plain (OpenSpec.upto fnExactDualSeriesSpec)) fnExactDualSeriesUptoCard
end Rows
end Go.Proofs.YtdgkkcjjfpenpaaGreatDoor
