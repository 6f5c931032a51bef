/-
  DERIVED. GIVEN WITH THE SEED: THE CARDS: each row of YtllggcbogmooeaaDoorRows.lean that lists a variable, with what it lists TIED to the program's text (the seventh form; the later family's looks); each row that meets fmt, with fmt's text TOLD by the authors' own Lean function (tested against real Go, not proved from fmt's source: count such statements apart). THE CARD IS WHAT COUNTS. Prove the row's statement (the work); the ties are given (YtllggcbogmooeaaDoorTie.lean); close each card by the builder's one call (the guide's Derived/Test/ToyasCard.lean, 'card_holds'). Laid BY PROGRAM, IN A SANDBOX (cutbox-door.mjs). By AI agents, Wed Nov 11 2026. No macro, syntax, notation, axiom, sorry.
-/
import Derived.Test.YtllggcbogmooeaaDoorRows
import GoSem.ClaimSeven
namespace Go.Proofs.YtllggcbogmooeaaDoor
namespace Rows

/-- THE TIED CARD OF 'laws.FnExactReversalOf'. -/
def fnExactReversalOfCard : Claim7 := { stood := { row := fnExactReversalOfRow, standIns := [], harness := (true, "913278d69960cc2d538915523f8ae402e7871ec5d5ce414958e866db8962c37b"), looks := false }, kinds := [], alts := [], laidByText := true, laidKinds := [.data, .data, .data], laidTests := true, laidLooks := .later }
def FnExactReversalOfCardSaid : Prop := Claim7.holds Tryd.pinned (.plain (OpenSpec.ofChange fnExactReversalOfSpec)) fnExactReversalOfCard

/-- THE TIED CARD OF 'laws.FnExactAntipodeOf'. -/
def fnExactAntipodeOfCard : Claim7 := { stood := { row := fnExactAntipodeOfRow, standIns := [], harness := (true, "913278d69960cc2d538915523f8ae402e7871ec5d5ce414958e866db8962c37b"), looks := false }, kinds := [], alts := [], laidByText := true, laidKinds := [.data, .data, .data], laidTests := true, laidLooks := .later }
def FnExactAntipodeOfCardSaid : Prop := Claim7.holds Tryd.pinned (.plain (OpenSpec.ofChange fnExactAntipodeOfSpec)) fnExactAntipodeOfCard

/-- THE SECOND FORM's CARD OF 'laws.FnExactReversalOf'. -/
def fnExactReversalOfUptoCard : Claim7 := { stood := { row := fnExactReversalOfUptoRow, standIns := [], harness := (true, "913278d69960cc2d538915523f8ae402e7871ec5d5ce414958e866db8962c37b"), looks := false }, kinds := [], alts := [], laidByText := true, laidKinds := [.data, .data, .data], laidTests := true, laidLooks := .later }
def FnExactReversalOfUptoCardSaid : Prop := Claim7.holds Tryd.pinned (.plain (OpenSpec.upto fnExactReversalOfSpec)) fnExactReversalOfUptoCard

/-- THE SECOND FORM's CARD OF 'laws.FnExactAntipodeOf'. -/
def fnExactAntipodeOfUptoCard : Claim7 := { stood := { row := fnExactAntipodeOfUptoRow, standIns := [], harness := (true, "913278d69960cc2d538915523f8ae402e7871ec5d5ce414958e866db8962c37b"), looks := false }, kinds := [], alts := [], laidByText := true, laidKinds := [.data, .data, .data], laidTests := true, laidLooks := .later }
def FnExactAntipodeOfUptoCardSaid : Prop := Claim7.holds Tryd.pinned (.plain (OpenSpec.upto fnExactAntipodeOfSpec)) fnExactAntipodeOfUptoCard
end Rows
end Go.Proofs.YtllggcbogmooeaaDoor
