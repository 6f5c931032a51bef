/-
  DERIVED. GIVEN WITH THE SEED: THE CARDS: each row of YtjloadllckllpaaGreatDoorRows.lean that lists a variable, with what it lists TIED to the program's text (the seventh form; the later family's looks); each row that meets fmt, with fmt's text TOLD by the authors' own Lean function (tested against real Go, not proved from fmt's source: count such statements apart). THE CARD IS WHAT COUNTS. Prove the row's statement (the work); the ties are given (YtjloadllckllpaaGreatDoorTie.lean); close each card by the builder's one call (the guide's Derived/Test/ToyasCard.lean, 'card_holds'). Laid BY PROGRAM, IN A SANDBOX (cutbox-door.mjs). By AI agents, Wed Nov 11 2026. No macro, syntax, notation, axiom, sorry.
-/
import Derived.Test.YtjloadllckllpaaGreatDoorRows
import GoSem.ClaimSeven
namespace Go.Proofs.YtjloadllckllpaaGreatDoor
namespace Rows

/-- THE TIED CARD OF 'laws.FnExactShuffleSeries'. -/
def fnExactShuffleSeriesCard : Claim7 := { stood := { row := fnExactShuffleSeriesRow, standIns := [], harness := (true, "c1345d0bb0124a5acaa2df8bb56fa907aedd2d5dacf79598599d421904a3a4aa"), looks := true }, kinds := [], alts := [], laidByText := true, laidKinds := [.data, .data, .data], laidTests := true, laidLooks := .later }
def FnExactShuffleSeriesCardSaid : Prop := Claim7.holds Tryz.pinned (.plain (OpenSpec.ofChange fnExactShuffleSeriesSpec)) fnExactShuffleSeriesCard

/-- THE TIED CARD OF 'laws.FnExactHalfShuffle'. -/
def fnExactHalfShuffleCard : Claim7 := { stood := { row := fnExactHalfShuffleRow, standIns := [], harness := (true, "c1345d0bb0124a5acaa2df8bb56fa907aedd2d5dacf79598599d421904a3a4aa"), looks := true }, kinds := [], alts := [], laidByText := true, laidKinds := [.data, .data, .data], laidTests := true, laidLooks := .later }
def FnExactHalfShuffleCardSaid : Prop := Claim7.holds Tryz.pinned (.plain (OpenSpec.ofChange fnExactHalfShuffleSpec)) fnExactHalfShuffleCard

/-- THE TIED CARD OF 'laws.FnExactShufflePower'. -/
def fnExactShufflePowerCard : Claim7 := { stood := { row := fnExactShufflePowerRow, standIns := [], harness := (true, "c1345d0bb0124a5acaa2df8bb56fa907aedd2d5dacf79598599d421904a3a4aa"), looks := true }, kinds := [], alts := [], laidByText := true, laidKinds := [.data, .data, .data], laidTests := true, laidLooks := .later }
def FnExactShufflePowerCardSaid : Prop := Claim7.holds Tryz.pinned (.plain (OpenSpec.ofChange fnExactShufflePowerSpec)) fnExactShufflePowerCard

/-- THE SECOND FORM's CARD OF 'laws.FnExactShuffleSeries'. -/
def fnExactShuffleSeriesUptoCard : Claim7 := { stood := { row := fnExactShuffleSeriesUptoRow, standIns := [], harness := (true, "c1345d0bb0124a5acaa2df8bb56fa907aedd2d5dacf79598599d421904a3a4aa"), looks := true }, kinds := [], alts := [], laidByText := true, laidKinds := [.data, .data, .data], laidTests := true, laidLooks := .later }
def FnExactShuffleSeriesUptoCardSaid : Prop := Claim7.holds Tryz.pinned (.plain (OpenSpec.upto fnExactShuffleSeriesSpec)) fnExactShuffleSeriesUptoCard

/-- THE SECOND FORM's CARD OF 'laws.FnExactHalfShuffle'. -/
def fnExactHalfShuffleUptoCard : Claim7 := { stood := { row := fnExactHalfShuffleUptoRow, standIns := [], harness := (true, "c1345d0bb0124a5acaa2df8bb56fa907aedd2d5dacf79598599d421904a3a4aa"), looks := true }, kinds := [], alts := [], laidByText := true, laidKinds := [.data, .data, .data], laidTests := true, laidLooks := .later }
def FnExactHalfShuffleUptoCardSaid : Prop := Claim7.holds Tryz.pinned (.plain (OpenSpec.upto fnExactHalfShuffleSpec)) fnExactHalfShuffleUptoCard

/-- THE SECOND FORM's CARD OF 'laws.FnExactShufflePower'. -/
def fnExactShufflePowerUptoCard : Claim7 := { stood := { row := fnExactShufflePowerUptoRow, standIns := [], harness := (true, "c1345d0bb0124a5acaa2df8bb56fa907aedd2d5dacf79598599d421904a3a4aa"), looks := true }, kinds := [], alts := [], laidByText := true, laidKinds := [.data, .data, .data], laidTests := true, laidLooks := .later }
def FnExactShufflePowerUptoCardSaid : Prop := Claim7.holds Tryz.pinned (.plain (OpenSpec.upto fnExactShufflePowerSpec)) fnExactShufflePowerUptoCard
end Rows
end Go.Proofs.YtjloadllckllpaaGreatDoor
