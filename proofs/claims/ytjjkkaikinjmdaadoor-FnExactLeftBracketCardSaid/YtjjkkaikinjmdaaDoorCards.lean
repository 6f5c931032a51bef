/-
  DERIVED. GIVEN WITH THE SEED: THE CARDS: each row of YtjjkkaikinjmdaaDoorRows.lean that lists a variable, with what it lists TIED to the program's text (the seventh form; the later family's looks); each row that meets fmt, with fmt's text TOLD by the authors' own Lean function (tested against real Go, not proved from fmt's source: count such statements apart). THE CARD IS WHAT COUNTS. Prove the row's statement (the work); the ties are given (YtjjkkaikinjmdaaDoorTie.lean); close each card by the builder's one call (the guide's Derived/Test/ToyasCard.lean, 'card_holds'). Laid BY PROGRAM, IN A SANDBOX (cutbox-door.mjs). By AI agents, Wed Nov 11 2026. No macro, syntax, notation, axiom, sorry.
-/
import Derived.Test.YtjjkkaikinjmdaaDoorRows
import GoSem.ClaimSeven
namespace Go.Proofs.YtjjkkaikinjmdaaDoor
namespace Rows

/-- THE TIED CARD OF 'laws.FnExactBracketOf'. -/
def fnExactBracketOfCard : Claim7 := { stood := { row := fnExactBracketOfRow, standIns := [], harness := (true, "30b355928df86af77f48c8cb7ec4d56daf9a079d9e8fbe05a24b1d26627bfec1"), looks := true }, kinds := [], alts := [], laidByText := true, laidKinds := [.data, .data, .data], laidTests := true, laidLooks := .later }
def FnExactBracketOfCardSaid : Prop := Claim7.holds Tryd.pinned (.plain (OpenSpec.ofChange fnExactBracketOfSpec)) fnExactBracketOfCard

/-- THE TIED CARD OF 'laws.FnExactLeftBracket'. -/
def fnExactLeftBracketCard : Claim7 := { stood := { row := fnExactLeftBracketRow, standIns := [], harness := (true, "30b355928df86af77f48c8cb7ec4d56daf9a079d9e8fbe05a24b1d26627bfec1"), looks := true }, kinds := [], alts := [], laidByText := true, laidKinds := [.data, .data, .data], laidTests := true, laidLooks := .later }
def FnExactLeftBracketCardSaid : Prop := Claim7.holds Tryd.pinned (.plain (OpenSpec.ofChange fnExactLeftBracketSpec)) fnExactLeftBracketCard

/-- THE SECOND FORM's CARD OF 'laws.FnExactBracketOf'. -/
def fnExactBracketOfUptoCard : Claim7 := { stood := { row := fnExactBracketOfUptoRow, standIns := [], harness := (true, "30b355928df86af77f48c8cb7ec4d56daf9a079d9e8fbe05a24b1d26627bfec1"), looks := true }, kinds := [], alts := [], laidByText := true, laidKinds := [.data, .data, .data], laidTests := true, laidLooks := .later }
def FnExactBracketOfUptoCardSaid : Prop := Claim7.holds Tryd.pinned (.plain (OpenSpec.upto fnExactBracketOfSpec)) fnExactBracketOfUptoCard

/-- THE SECOND FORM's CARD OF 'laws.FnExactLeftBracket'. -/
def fnExactLeftBracketUptoCard : Claim7 := { stood := { row := fnExactLeftBracketUptoRow, standIns := [], harness := (true, "30b355928df86af77f48c8cb7ec4d56daf9a079d9e8fbe05a24b1d26627bfec1"), looks := true }, kinds := [], alts := [], laidByText := true, laidKinds := [.data, .data, .data], laidTests := true, laidLooks := .later }
def FnExactLeftBracketUptoCardSaid : Prop := Claim7.holds Tryd.pinned (.plain (OpenSpec.upto fnExactLeftBracketSpec)) fnExactLeftBracketUptoCard
end Rows
end Go.Proofs.YtjjkkaikinjmdaaDoor
