/-
  DERIVED. GIVEN WITH THE SEED: THE CARDS: each row of YtoeednnkadmjpaaGreatDoorRows.lean that lists a variable, with what it lists TIED to the program's text (the seventh form; the later family's looks); each row that meets fmt, with fmt's text TOLD by the authors' own Lean function (tested against real Go, not proved from fmt's source: count such statements apart). THE CARD IS WHAT COUNTS. Prove the row's statement (the work); the ties are given (YtoeednnkadmjpaaGreatDoorTie.lean); close each card by the builder's one call (the guide's Derived/Test/ToyasCard.lean, 'card_holds'). Laid BY PROGRAM, IN A SANDBOX (cutbox-door.mjs). By AI agents, Wed Nov 11 2026. No macro, syntax, notation, axiom, sorry.
-/
import Derived.Test.YtoeednnkadmjpaaGreatDoorRows
import GoSem.ClaimSeven
namespace Go.Proofs.YtoeednnkadmjpaaGreatDoor
namespace Rows

/-- THE TIED CARD OF 'laws.FnExactInverseSeries'. -/
def fnExactInverseSeriesCard : Claim7 := { stood := { row := fnExactInverseSeriesRow, standIns := [], harness := (true, "86799ca383fbc40e6a13d05297d35b48d1fc8a039c48e14336832df72262f349"), looks := true }, kinds := [], alts := [], laidByText := true, laidKinds := [.data, .data, .data], laidTests := true, laidLooks := .later }
def FnExactInverseSeriesCardSaid : Prop := Claim7.holds Tryz.pinned (.plain (OpenSpec.ofChange fnExactInverseSeriesSpec)) fnExactInverseSeriesCard

/-- THE TIED CARD OF 'laws.FnExactExponentialOf'. -/
def fnExactExponentialOfCard : Claim7 := { stood := { row := fnExactExponentialOfRow, standIns := [], harness := (true, "86799ca383fbc40e6a13d05297d35b48d1fc8a039c48e14336832df72262f349"), looks := true }, kinds := [], alts := [], laidByText := true, laidKinds := [.data, .data, .data], laidTests := true, laidLooks := .later }
def FnExactExponentialOfCardSaid : Prop := Claim7.holds Tryz.pinned (.plain (OpenSpec.ofChange fnExactExponentialOfSpec)) fnExactExponentialOfCard

/-- THE TIED CARD OF 'laws.FnExactLogarithmOf'. -/
def fnExactLogarithmOfCard : Claim7 := { stood := { row := fnExactLogarithmOfRow, standIns := [], harness := (true, "86799ca383fbc40e6a13d05297d35b48d1fc8a039c48e14336832df72262f349"), looks := true }, kinds := [], alts := [], laidByText := true, laidKinds := [.data, .data, .data], laidTests := true, laidLooks := .later }
def FnExactLogarithmOfCardSaid : Prop := Claim7.holds Tryz.pinned (.plain (OpenSpec.ofChange fnExactLogarithmOfSpec)) fnExactLogarithmOfCard

/-- THE TIED CARD OF 'laws.FnExactJoinedSeries'. -/
def fnExactJoinedSeriesCard : Claim7 := { stood := { row := fnExactJoinedSeriesRow, standIns := [], harness := (true, "86799ca383fbc40e6a13d05297d35b48d1fc8a039c48e14336832df72262f349"), looks := true }, kinds := [], alts := [], laidByText := true, laidKinds := [.data, .data, .data], laidTests := true, laidLooks := .later }
def FnExactJoinedSeriesCardSaid : Prop := Claim7.holds Tryz.pinned (.plain (OpenSpec.ofChange fnExactJoinedSeriesSpec)) fnExactJoinedSeriesCard

/-- THE SECOND FORM's CARD OF 'laws.FnExactInverseSeries'. -/
def fnExactInverseSeriesUptoCard : Claim7 := { stood := { row := fnExactInverseSeriesUptoRow, standIns := [], harness := (true, "86799ca383fbc40e6a13d05297d35b48d1fc8a039c48e14336832df72262f349"), looks := true }, kinds := [], alts := [], laidByText := true, laidKinds := [.data, .data, .data], laidTests := true, laidLooks := .later }
def FnExactInverseSeriesUptoCardSaid : Prop := Claim7.holds Tryz.pinned (.plain (OpenSpec.upto fnExactInverseSeriesSpec)) fnExactInverseSeriesUptoCard

/-- THE SECOND FORM's CARD OF 'laws.FnExactExponentialOf'. -/
def fnExactExponentialOfUptoCard : Claim7 := { stood := { row := fnExactExponentialOfUptoRow, standIns := [], harness := (true, "86799ca383fbc40e6a13d05297d35b48d1fc8a039c48e14336832df72262f349"), looks := true }, kinds := [], alts := [], laidByText := true, laidKinds := [.data, .data, .data], laidTests := true, laidLooks := .later }
def FnExactExponentialOfUptoCardSaid : Prop := Claim7.holds Tryz.pinned (.plain (OpenSpec.upto fnExactExponentialOfSpec)) fnExactExponentialOfUptoCard

/-- THE SECOND FORM's CARD OF 'laws.FnExactLogarithmOf'. -/
def fnExactLogarithmOfUptoCard : Claim7 := { stood := { row := fnExactLogarithmOfUptoRow, standIns := [], harness := (true, "86799ca383fbc40e6a13d05297d35b48d1fc8a039c48e14336832df72262f349"), looks := true }, kinds := [], alts := [], laidByText := true, laidKinds := [.data, .data, .data], laidTests := true, laidLooks := .later }
def FnExactLogarithmOfUptoCardSaid : Prop := Claim7.holds Tryz.pinned (.plain (OpenSpec.upto fnExactLogarithmOfSpec)) fnExactLogarithmOfUptoCard

/-- THE SECOND FORM's CARD OF 'laws.FnExactJoinedSeries'. -/
def fnExactJoinedSeriesUptoCard : Claim7 := { stood := { row := fnExactJoinedSeriesUptoRow, standIns := [], harness := (true, "86799ca383fbc40e6a13d05297d35b48d1fc8a039c48e14336832df72262f349"), looks := true }, kinds := [], alts := [], laidByText := true, laidKinds := [.data, .data, .data], laidTests := true, laidLooks := .later }
def FnExactJoinedSeriesUptoCardSaid : Prop := Claim7.holds Tryz.pinned (.plain (OpenSpec.upto fnExactJoinedSeriesSpec)) fnExactJoinedSeriesUptoCard
end Rows
end Go.Proofs.YtoeednnkadmjpaaGreatDoor
