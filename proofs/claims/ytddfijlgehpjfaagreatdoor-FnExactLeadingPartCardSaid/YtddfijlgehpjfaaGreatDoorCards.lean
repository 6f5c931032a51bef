/-
  DERIVED. GIVEN WITH THE SEED: THE CARDS: each row of YtddfijlgehpjfaaGreatDoorRows.lean that lists a variable, with what it lists TIED to the program's text (the seventh form; the later family's looks); each row that meets fmt, with fmt's text TOLD by the authors' own Lean function (tested against real Go, not proved from fmt's source: count such statements apart). THE CARD IS WHAT COUNTS. Prove the row's statement (the work); the ties are given (YtddfijlgehpjfaaGreatDoorTie.lean); close each card by the builder's one call (the guide's Derived/Test/ToyasCard.lean, 'card_holds'). Laid BY PROGRAM, IN A SANDBOX (cutbox-door.mjs). By AI agents, Wed Nov 11 2026. No macro, syntax, notation, axiom, sorry.
-/
import Derived.Test.YtddfijlgehpjfaaGreatDoorRows
import GoSem.ClaimSeven
namespace Go.Proofs.YtddfijlgehpjfaaGreatDoor
namespace Rows

/-- THE TIED CARD OF 'laws.FnExactLeadingPart'. -/
def fnExactLeadingPartCard : Claim7 := { stood := { row := fnExactLeadingPartRow, standIns := [], harness := (true, "cfdd6842d03fcdf30708de40c52a1dcc6c53c53ba6405b6a9d3520e10bcf0880"), looks := true }, kinds := [], alts := [], laidByText := true, laidKinds := [.data, .data, .data], laidTests := true, laidLooks := .later }
def FnExactLeadingPartCardSaid : Prop := Claim7.holds Tryz.pinned (.plain (OpenSpec.ofChange fnExactLeadingPartSpec)) fnExactLeadingPartCard

/-- THE SECOND FORM's CARD OF 'laws.FnExactLeadingPart'. -/
def fnExactLeadingPartUptoCard : Claim7 := { stood := { row := fnExactLeadingPartUptoRow, standIns := [], harness := (true, "cfdd6842d03fcdf30708de40c52a1dcc6c53c53ba6405b6a9d3520e10bcf0880"), looks := true }, kinds := [], alts := [], laidByText := true, laidKinds := [.data, .data, .data], laidTests := true, laidLooks := .later }
def FnExactLeadingPartUptoCardSaid : Prop := Claim7.holds Tryz.pinned (.plain (OpenSpec.upto fnExactLeadingPartSpec)) fnExactLeadingPartUptoCard
end Rows
end Go.Proofs.YtddfijlgehpjfaaGreatDoor
