/-
  DERIVED. GIVEN WITH THE SEED: THE CARDS: each row of YtjjkkaikinjmdaaGreatDoorRows.lean that lists a variable, with what it lists TIED to the program's text (the seventh form; the later family's looks); each row that meets fmt, with fmt's text TOLD by the authors' own Lean function (tested against real Go, not proved from fmt's source: count such statements apart). THE CARD IS WHAT COUNTS. Prove the row's statement (the work); the ties are given (YtjjkkaikinjmdaaGreatDoorTie.lean); close each card by the builder's one call (the guide's Derived/Test/ToyasCard.lean, 'card_holds'). Laid BY PROGRAM, IN A SANDBOX (cutbox-door.mjs). By AI agents, Wed Nov 11 2026. No macro, syntax, notation, axiom, sorry.
-/
import Derived.Test.YtjjkkaikinjmdaaGreatDoorRows
import GoSem.ClaimSeven
namespace Go.Proofs.YtjjkkaikinjmdaaGreatDoor
namespace Rows

/-- THE TIED CARD OF 'laws.FnExactSeriesOfCoordinates'. -/
def fnExactSeriesOfCoordinatesCard : Claim7 := { stood := { row := fnExactSeriesOfCoordinatesRow, standIns := [], harness := (true, "7f4317c1baedf0ffebbb8ab2999d6a7c3a5eb635e602cfca121efaa7f2011a54"), looks := true }, kinds := [], alts := [], laidByText := true, laidKinds := [.data, .data, .data], laidTests := true, laidLooks := .later }
def FnExactSeriesOfCoordinatesCardSaid : Prop := Claim7.holds Tryz.pinned (.plain (OpenSpec.ofChange fnExactSeriesOfCoordinatesSpec)) fnExactSeriesOfCoordinatesCard

/-- THE TIED CARD OF 'laws.FnExactDynkinMap'. -/
def fnExactDynkinMapCard : Claim7 := { stood := { row := fnExactDynkinMapRow, standIns := [], harness := (true, "7f4317c1baedf0ffebbb8ab2999d6a7c3a5eb635e602cfca121efaa7f2011a54"), looks := true }, kinds := [], alts := [], laidByText := true, laidKinds := [.data, .data, .data], laidTests := true, laidLooks := .later }
def FnExactDynkinMapCardSaid : Prop := Claim7.holds Tryz.pinned (.plain (OpenSpec.ofChange fnExactDynkinMapSpec)) fnExactDynkinMapCard

/-- THE TIED CARD OF 'laws.FnExactLieCoordinates'. -/
def fnExactLieCoordinatesCard : Claim7 := { stood := { row := fnExactLieCoordinatesRow, standIns := [], harness := (true, "7f4317c1baedf0ffebbb8ab2999d6a7c3a5eb635e602cfca121efaa7f2011a54"), looks := true }, kinds := [], alts := [], laidByText := true, laidKinds := [.data, .data, .data], laidTests := true, laidLooks := .later }
def FnExactLieCoordinatesCardSaid : Prop := Claim7.holds Tryz.pinned (.plain (OpenSpec.ofChange fnExactLieCoordinatesSpec)) fnExactLieCoordinatesCard

/-- THE SECOND FORM's CARD OF 'laws.FnExactSeriesOfCoordinates'. -/
def fnExactSeriesOfCoordinatesUptoCard : Claim7 := { stood := { row := fnExactSeriesOfCoordinatesUptoRow, standIns := [], harness := (true, "7f4317c1baedf0ffebbb8ab2999d6a7c3a5eb635e602cfca121efaa7f2011a54"), looks := true }, kinds := [], alts := [], laidByText := true, laidKinds := [.data, .data, .data], laidTests := true, laidLooks := .later }
def FnExactSeriesOfCoordinatesUptoCardSaid : Prop := Claim7.holds Tryz.pinned (.plain (OpenSpec.upto fnExactSeriesOfCoordinatesSpec)) fnExactSeriesOfCoordinatesUptoCard

/-- THE SECOND FORM's CARD OF 'laws.FnExactDynkinMap'. -/
def fnExactDynkinMapUptoCard : Claim7 := { stood := { row := fnExactDynkinMapUptoRow, standIns := [], harness := (true, "7f4317c1baedf0ffebbb8ab2999d6a7c3a5eb635e602cfca121efaa7f2011a54"), looks := true }, kinds := [], alts := [], laidByText := true, laidKinds := [.data, .data, .data], laidTests := true, laidLooks := .later }
def FnExactDynkinMapUptoCardSaid : Prop := Claim7.holds Tryz.pinned (.plain (OpenSpec.upto fnExactDynkinMapSpec)) fnExactDynkinMapUptoCard

/-- THE SECOND FORM's CARD OF 'laws.FnExactLieCoordinates'. -/
def fnExactLieCoordinatesUptoCard : Claim7 := { stood := { row := fnExactLieCoordinatesUptoRow, standIns := [], harness := (true, "7f4317c1baedf0ffebbb8ab2999d6a7c3a5eb635e602cfca121efaa7f2011a54"), looks := true }, kinds := [], alts := [], laidByText := true, laidKinds := [.data, .data, .data], laidTests := true, laidLooks := .later }
def FnExactLieCoordinatesUptoCardSaid : Prop := Claim7.holds Tryz.pinned (.plain (OpenSpec.upto fnExactLieCoordinatesSpec)) fnExactLieCoordinatesUptoCard
end Rows
end Go.Proofs.YtjjkkaikinjmdaaGreatDoor
