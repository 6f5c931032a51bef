/-
  DERIVED. GIVEN WITH THE SEED: THE CARDS: each row of YtgcjpenlcokgjaaGreatDoorRows.lean that lists a variable, with what it lists TIED to the program's text (the seventh form; the later family's looks); each row that meets fmt, with fmt's text TOLD by the authors' own Lean function (tested against real Go, not proved from fmt's source: count such statements apart). THE CARD IS WHAT COUNTS. Prove the row's statement (the work); the ties are given (YtgcjpenlcokgjaaGreatDoorTie.lean); close each card by the builder's one call (the guide's Derived/Test/ToyasCard.lean, 'card_holds'). Laid BY PROGRAM, IN A SANDBOX (cutbox-door.mjs). By AI agents, Wed Nov 11 2026. No macro, syntax, notation, axiom, sorry.
-/
import Derived.Test.YtgcjpenlcokgjaaGreatDoorRows
import GoSem.ClaimSeven
namespace Go.Proofs.YtgcjpenlcokgjaaGreatDoor
namespace Rows

/-- THE TIED CARD OF 'laws.FnExactSeriesOfCoordinates'. -/
def fnExactSeriesOfCoordinatesCard : Claim7 := { stood := { row := fnExactSeriesOfCoordinatesRow, standIns := [], harness := (true, "67215dec064d8b3d7e4443ae0dca8c8f535e48d08201d54f7c1e27acde29c558"), looks := true }, kinds := [], alts := [], laidByText := true, laidKinds := [.data, .data, .data], laidTests := true, laidLooks := .later }
def FnExactSeriesOfCoordinatesCardSaid : Prop := Claim7.holds Tryz.pinned (.plain (OpenSpec.ofChange fnExactSeriesOfCoordinatesSpec)) fnExactSeriesOfCoordinatesCard

/-- THE TIED CARD OF 'laws.FnExactSignatureOfCoordinates'. -/
def fnExactSignatureOfCoordinatesCard : Claim7 := { stood := { row := fnExactSignatureOfCoordinatesRow, standIns := [], harness := (true, "67215dec064d8b3d7e4443ae0dca8c8f535e48d08201d54f7c1e27acde29c558"), looks := true }, kinds := [], alts := [], laidByText := true, laidKinds := [.data, .data, .data], laidTests := true, laidLooks := .later }
def FnExactSignatureOfCoordinatesCardSaid : Prop := Claim7.holds Tryz.pinned (.plain (OpenSpec.ofChange fnExactSignatureOfCoordinatesSpec)) fnExactSignatureOfCoordinatesCard

/-- THE TIED CARD OF 'laws.FnExactLieCoordinates'. -/
def fnExactLieCoordinatesCard : Claim7 := { stood := { row := fnExactLieCoordinatesRow, standIns := [], harness := (true, "67215dec064d8b3d7e4443ae0dca8c8f535e48d08201d54f7c1e27acde29c558"), looks := true }, kinds := [], alts := [], laidByText := true, laidKinds := [.data, .data, .data], laidTests := true, laidLooks := .later }
def FnExactLieCoordinatesCardSaid : Prop := Claim7.holds Tryz.pinned (.plain (OpenSpec.ofChange fnExactLieCoordinatesSpec)) fnExactLieCoordinatesCard

/-- THE TIED CARD OF 'laws.FnExactPathCoordinates'. -/
def fnExactPathCoordinatesCard : Claim7 := { stood := { row := fnExactPathCoordinatesRow, standIns := [], harness := (true, "67215dec064d8b3d7e4443ae0dca8c8f535e48d08201d54f7c1e27acde29c558"), looks := true }, kinds := [], alts := [], laidByText := true, laidKinds := [.data, .data, .data], laidTests := true, laidLooks := .later }
def FnExactPathCoordinatesCardSaid : Prop := Claim7.holds Tryz.pinned (.plain (OpenSpec.ofChange fnExactPathCoordinatesSpec)) fnExactPathCoordinatesCard

/-- THE TIED CARD OF 'laws.FnExactMultiplyCoordinates'. -/
def fnExactMultiplyCoordinatesCard : Claim7 := { stood := { row := fnExactMultiplyCoordinatesRow, standIns := [], harness := (true, "67215dec064d8b3d7e4443ae0dca8c8f535e48d08201d54f7c1e27acde29c558"), looks := true }, kinds := [], alts := [], laidByText := true, laidKinds := [.data, .data, .data], laidTests := true, laidLooks := .later }
def FnExactMultiplyCoordinatesCardSaid : Prop := Claim7.holds Tryz.pinned (.plain (OpenSpec.ofChange fnExactMultiplyCoordinatesSpec)) fnExactMultiplyCoordinatesCard

/-- THE SECOND FORM's CARD OF 'laws.FnExactSeriesOfCoordinates'. -/
def fnExactSeriesOfCoordinatesUptoCard : Claim7 := { stood := { row := fnExactSeriesOfCoordinatesUptoRow, standIns := [], harness := (true, "67215dec064d8b3d7e4443ae0dca8c8f535e48d08201d54f7c1e27acde29c558"), looks := true }, kinds := [], alts := [], laidByText := true, laidKinds := [.data, .data, .data], laidTests := true, laidLooks := .later }
def FnExactSeriesOfCoordinatesUptoCardSaid : Prop := Claim7.holds Tryz.pinned (.plain (OpenSpec.upto fnExactSeriesOfCoordinatesSpec)) fnExactSeriesOfCoordinatesUptoCard

/-- THE SECOND FORM's CARD OF 'laws.FnExactSignatureOfCoordinates'. -/
def fnExactSignatureOfCoordinatesUptoCard : Claim7 := { stood := { row := fnExactSignatureOfCoordinatesUptoRow, standIns := [], harness := (true, "67215dec064d8b3d7e4443ae0dca8c8f535e48d08201d54f7c1e27acde29c558"), looks := true }, kinds := [], alts := [], laidByText := true, laidKinds := [.data, .data, .data], laidTests := true, laidLooks := .later }
def FnExactSignatureOfCoordinatesUptoCardSaid : Prop := Claim7.holds Tryz.pinned (.plain (OpenSpec.upto fnExactSignatureOfCoordinatesSpec)) fnExactSignatureOfCoordinatesUptoCard

/-- THE SECOND FORM's CARD OF 'laws.FnExactLieCoordinates'. -/
def fnExactLieCoordinatesUptoCard : Claim7 := { stood := { row := fnExactLieCoordinatesUptoRow, standIns := [], harness := (true, "67215dec064d8b3d7e4443ae0dca8c8f535e48d08201d54f7c1e27acde29c558"), looks := true }, kinds := [], alts := [], laidByText := true, laidKinds := [.data, .data, .data], laidTests := true, laidLooks := .later }
def FnExactLieCoordinatesUptoCardSaid : Prop := Claim7.holds Tryz.pinned (.plain (OpenSpec.upto fnExactLieCoordinatesSpec)) fnExactLieCoordinatesUptoCard

/-- THE SECOND FORM's CARD OF 'laws.FnExactPathCoordinates'. -/
def fnExactPathCoordinatesUptoCard : Claim7 := { stood := { row := fnExactPathCoordinatesUptoRow, standIns := [], harness := (true, "67215dec064d8b3d7e4443ae0dca8c8f535e48d08201d54f7c1e27acde29c558"), looks := true }, kinds := [], alts := [], laidByText := true, laidKinds := [.data, .data, .data], laidTests := true, laidLooks := .later }
def FnExactPathCoordinatesUptoCardSaid : Prop := Claim7.holds Tryz.pinned (.plain (OpenSpec.upto fnExactPathCoordinatesSpec)) fnExactPathCoordinatesUptoCard

/-- THE SECOND FORM's CARD OF 'laws.FnExactMultiplyCoordinates'. -/
def fnExactMultiplyCoordinatesUptoCard : Claim7 := { stood := { row := fnExactMultiplyCoordinatesUptoRow, standIns := [], harness := (true, "67215dec064d8b3d7e4443ae0dca8c8f535e48d08201d54f7c1e27acde29c558"), looks := true }, kinds := [], alts := [], laidByText := true, laidKinds := [.data, .data, .data], laidTests := true, laidLooks := .later }
def FnExactMultiplyCoordinatesUptoCardSaid : Prop := Claim7.holds Tryz.pinned (.plain (OpenSpec.upto fnExactMultiplyCoordinatesSpec)) fnExactMultiplyCoordinatesUptoCard
end Rows
end Go.Proofs.YtgcjpenlcokgjaaGreatDoor
