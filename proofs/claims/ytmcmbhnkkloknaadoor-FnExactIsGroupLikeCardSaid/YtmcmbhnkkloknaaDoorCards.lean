/-
  DERIVED. GIVEN WITH THE SEED: THE CARDS: each row of YtmcmbhnkkloknaaDoorRows.lean that lists a variable, with what it lists TIED to the program's text (the seventh form; the later family's looks); each row that meets fmt, with fmt's text TOLD by the authors' own Lean function (tested against real Go, not proved from fmt's source: count such statements apart). THE CARD IS WHAT COUNTS. Prove the row's statement (the work); the ties are given (YtmcmbhnkkloknaaDoorTie.lean); close each card by the builder's one call (the guide's Derived/Test/ToyasCard.lean, 'card_holds'). Laid BY PROGRAM, IN A SANDBOX (cutbox-door.mjs). By AI agents, Wed Nov 11 2026. No macro, syntax, notation, axiom, sorry.
-/
import Derived.Test.YtmcmbhnkkloknaaDoorRows
import GoSem.ClaimSeven
namespace Go.Proofs.YtmcmbhnkkloknaaDoor
namespace Rows

/-- THE TIED CARD OF 'laws.FnExactIsGroupLike'. -/
def fnExactIsGroupLikeCard : Claim7 := { stood := { row := fnExactIsGroupLikeRow, standIns := [], harness := (true, "6d79210e738fd4c27bbcb91a5809670a60c4ae24ea7ceb9d3d79e11b4b68d33f"), looks := false }, kinds := [], alts := [], laidByText := true, laidKinds := [.data, .data, .data], laidTests := true, laidLooks := .later }
def FnExactIsGroupLikeCardSaid : Prop := Claim7.holds Tryd.pinned (.plain (OpenSpec.ofChange fnExactIsGroupLikeSpec)) fnExactIsGroupLikeCard

/-- THE TIED CARD OF 'laws.FnExactIsLieSeries'. -/
def fnExactIsLieSeriesCard : Claim7 := { stood := { row := fnExactIsLieSeriesRow, standIns := [], harness := (true, "6d79210e738fd4c27bbcb91a5809670a60c4ae24ea7ceb9d3d79e11b4b68d33f"), looks := false }, kinds := [], alts := [], laidByText := true, laidKinds := [.data, .data, .data], laidTests := true, laidLooks := .later }
def FnExactIsLieSeriesCardSaid : Prop := Claim7.holds Tryd.pinned (.plain (OpenSpec.ofChange fnExactIsLieSeriesSpec)) fnExactIsLieSeriesCard

/-- THE SECOND FORM's CARD OF 'laws.FnExactIsGroupLike'. -/
def fnExactIsGroupLikeUptoCard : Claim7 := { stood := { row := fnExactIsGroupLikeUptoRow, standIns := [], harness := (true, "6d79210e738fd4c27bbcb91a5809670a60c4ae24ea7ceb9d3d79e11b4b68d33f"), looks := false }, kinds := [], alts := [], laidByText := true, laidKinds := [.data, .data, .data], laidTests := true, laidLooks := .later }
def FnExactIsGroupLikeUptoCardSaid : Prop := Claim7.holds Tryd.pinned (.plain (OpenSpec.upto fnExactIsGroupLikeSpec)) fnExactIsGroupLikeUptoCard

/-- THE SECOND FORM's CARD OF 'laws.FnExactIsLieSeries'. -/
def fnExactIsLieSeriesUptoCard : Claim7 := { stood := { row := fnExactIsLieSeriesUptoRow, standIns := [], harness := (true, "6d79210e738fd4c27bbcb91a5809670a60c4ae24ea7ceb9d3d79e11b4b68d33f"), looks := false }, kinds := [], alts := [], laidByText := true, laidKinds := [.data, .data, .data], laidTests := true, laidLooks := .later }
def FnExactIsLieSeriesUptoCardSaid : Prop := Claim7.holds Tryd.pinned (.plain (OpenSpec.upto fnExactIsLieSeriesSpec)) fnExactIsLieSeriesUptoCard
end Rows
end Go.Proofs.YtmcmbhnkkloknaaDoor
