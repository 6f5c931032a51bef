/-
  DERIVED. GIVEN WITH THE SEED: THE CARDS: each row of YtoeednnkadmjpaaDoorRows.lean that lists a variable, with what it lists TIED to the program's text (the seventh form; the later family's looks); each row that meets fmt, with fmt's text TOLD by the authors' own Lean function (tested against real Go, not proved from fmt's source: count such statements apart). THE CARD IS WHAT COUNTS. Prove the row's statement (the work); the ties are given (YtoeednnkadmjpaaDoorTie.lean); close each card by the builder's one call (the guide's Derived/Test/ToyasCard.lean, 'card_holds'). Laid BY PROGRAM, IN A SANDBOX (cutbox-door.mjs). By AI agents, Wed Nov 11 2026. No macro, syntax, notation, axiom, sorry.
-/
import Derived.Test.YtoeednnkadmjpaaDoorRows
import GoSem.ClaimSeven
namespace Go.Proofs.YtoeednnkadmjpaaDoor
namespace Rows

/-- THE TIED CARD OF 'laws.FnExactUnitSeries'. -/
def fnExactUnitSeriesCard : Claim7 := { stood := { row := fnExactUnitSeriesRow, standIns := [], harness := (true, "ec7fb62b521a9ebec2f68fbc66e87e082f9630c430afa67c2787ae87507fd036"), looks := true }, kinds := [], alts := [], laidByText := true, laidKinds := [.data, .data, .data], laidTests := true, laidLooks := .later }
def FnExactUnitSeriesCardSaid : Prop := Claim7.holds Tryd.pinned (.plain (OpenSpec.ofChange fnExactUnitSeriesSpec)) fnExactUnitSeriesCard

/-- THE TIED CARD OF 'laws.FnExactMultiplySeries'. -/
def fnExactMultiplySeriesCard : Claim7 := { stood := { row := fnExactMultiplySeriesRow, standIns := [], harness := (true, "ec7fb62b521a9ebec2f68fbc66e87e082f9630c430afa67c2787ae87507fd036"), looks := true }, kinds := [], alts := [], laidByText := true, laidKinds := [.data, .data, .data], laidTests := true, laidLooks := .later }
def FnExactMultiplySeriesCardSaid : Prop := Claim7.holds Tryd.pinned (.plain (OpenSpec.ofChange fnExactMultiplySeriesSpec)) fnExactMultiplySeriesCard

/-- THE TIED CARD OF 'laws.FnExactPowerSeries'. -/
def fnExactPowerSeriesCard : Claim7 := { stood := { row := fnExactPowerSeriesRow, standIns := [], harness := (true, "ec7fb62b521a9ebec2f68fbc66e87e082f9630c430afa67c2787ae87507fd036"), looks := true }, kinds := [], alts := [], laidByText := true, laidKinds := [.data, .data, .data], laidTests := true, laidLooks := .later }
def FnExactPowerSeriesCardSaid : Prop := Claim7.holds Tryd.pinned (.plain (OpenSpec.ofChange fnExactPowerSeriesSpec)) fnExactPowerSeriesCard

/-- THE TIED CARD OF 'laws.FnExactCommutatorOf'. -/
def fnExactCommutatorOfCard : Claim7 := { stood := { row := fnExactCommutatorOfRow, standIns := [], harness := (true, "ec7fb62b521a9ebec2f68fbc66e87e082f9630c430afa67c2787ae87507fd036"), looks := true }, kinds := [], alts := [], laidByText := true, laidKinds := [.data, .data, .data], laidTests := true, laidLooks := .later }
def FnExactCommutatorOfCardSaid : Prop := Claim7.holds Tryd.pinned (.plain (OpenSpec.ofChange fnExactCommutatorOfSpec)) fnExactCommutatorOfCard

/-- THE TIED CARD OF 'laws.FnExactReversalOf'. -/
def fnExactReversalOfCard : Claim7 := { stood := { row := fnExactReversalOfRow, standIns := [], harness := (true, "ec7fb62b521a9ebec2f68fbc66e87e082f9630c430afa67c2787ae87507fd036"), looks := true }, kinds := [], alts := [], laidByText := true, laidKinds := [.data, .data, .data], laidTests := true, laidLooks := .later }
def FnExactReversalOfCardSaid : Prop := Claim7.holds Tryd.pinned (.plain (OpenSpec.ofChange fnExactReversalOfSpec)) fnExactReversalOfCard

/-- THE TIED CARD OF 'laws.FnExactAntipodeOf'. -/
def fnExactAntipodeOfCard : Claim7 := { stood := { row := fnExactAntipodeOfRow, standIns := [], harness := (true, "ec7fb62b521a9ebec2f68fbc66e87e082f9630c430afa67c2787ae87507fd036"), looks := true }, kinds := [], alts := [], laidByText := true, laidKinds := [.data, .data, .data], laidTests := true, laidLooks := .later }
def FnExactAntipodeOfCardSaid : Prop := Claim7.holds Tryd.pinned (.plain (OpenSpec.ofChange fnExactAntipodeOfSpec)) fnExactAntipodeOfCard

/-- THE TIED CARD OF 'laws.FnExactAreSignaturesEqual'. -/
def fnExactAreSignaturesEqualCard : Claim7 := { stood := { row := fnExactAreSignaturesEqualRow, standIns := [], harness := (true, "ec7fb62b521a9ebec2f68fbc66e87e082f9630c430afa67c2787ae87507fd036"), looks := true }, kinds := [], alts := [], laidByText := true, laidKinds := [.data, .data, .data], laidTests := true, laidLooks := .later }
def FnExactAreSignaturesEqualCardSaid : Prop := Claim7.holds Tryd.pinned (.plain (OpenSpec.ofChange fnExactAreSignaturesEqualSpec)) fnExactAreSignaturesEqualCard

/-- THE TIED CARD OF 'laws.FnExactRepeatedBracket'. -/
def fnExactRepeatedBracketCard : Claim7 := { stood := { row := fnExactRepeatedBracketRow, standIns := [], harness := (true, "ec7fb62b521a9ebec2f68fbc66e87e082f9630c430afa67c2787ae87507fd036"), looks := true }, kinds := [], alts := [], laidByText := true, laidKinds := [.data, .data, .data], laidTests := true, laidLooks := .later }
def FnExactRepeatedBracketCardSaid : Prop := Claim7.holds Tryd.pinned (.plain (OpenSpec.ofChange fnExactRepeatedBracketSpec)) fnExactRepeatedBracketCard

/-- THE SECOND FORM's CARD OF 'laws.FnExactUnitSeries'. -/
def fnExactUnitSeriesUptoCard : Claim7 := { stood := { row := fnExactUnitSeriesUptoRow, standIns := [], harness := (true, "ec7fb62b521a9ebec2f68fbc66e87e082f9630c430afa67c2787ae87507fd036"), looks := true }, kinds := [], alts := [], laidByText := true, laidKinds := [.data, .data, .data], laidTests := true, laidLooks := .later }
def FnExactUnitSeriesUptoCardSaid : Prop := Claim7.holds Tryd.pinned (.plain (OpenSpec.upto fnExactUnitSeriesSpec)) fnExactUnitSeriesUptoCard

/-- THE SECOND FORM's CARD OF 'laws.FnExactMultiplySeries'. -/
def fnExactMultiplySeriesUptoCard : Claim7 := { stood := { row := fnExactMultiplySeriesUptoRow, standIns := [], harness := (true, "ec7fb62b521a9ebec2f68fbc66e87e082f9630c430afa67c2787ae87507fd036"), looks := true }, kinds := [], alts := [], laidByText := true, laidKinds := [.data, .data, .data], laidTests := true, laidLooks := .later }
def FnExactMultiplySeriesUptoCardSaid : Prop := Claim7.holds Tryd.pinned (.plain (OpenSpec.upto fnExactMultiplySeriesSpec)) fnExactMultiplySeriesUptoCard

/-- THE SECOND FORM's CARD OF 'laws.FnExactPowerSeries'. -/
def fnExactPowerSeriesUptoCard : Claim7 := { stood := { row := fnExactPowerSeriesUptoRow, standIns := [], harness := (true, "ec7fb62b521a9ebec2f68fbc66e87e082f9630c430afa67c2787ae87507fd036"), looks := true }, kinds := [], alts := [], laidByText := true, laidKinds := [.data, .data, .data], laidTests := true, laidLooks := .later }
def FnExactPowerSeriesUptoCardSaid : Prop := Claim7.holds Tryd.pinned (.plain (OpenSpec.upto fnExactPowerSeriesSpec)) fnExactPowerSeriesUptoCard

/-- THE SECOND FORM's CARD OF 'laws.FnExactCommutatorOf'. -/
def fnExactCommutatorOfUptoCard : Claim7 := { stood := { row := fnExactCommutatorOfUptoRow, standIns := [], harness := (true, "ec7fb62b521a9ebec2f68fbc66e87e082f9630c430afa67c2787ae87507fd036"), looks := true }, kinds := [], alts := [], laidByText := true, laidKinds := [.data, .data, .data], laidTests := true, laidLooks := .later }
def FnExactCommutatorOfUptoCardSaid : Prop := Claim7.holds Tryd.pinned (.plain (OpenSpec.upto fnExactCommutatorOfSpec)) fnExactCommutatorOfUptoCard

/-- THE SECOND FORM's CARD OF 'laws.FnExactReversalOf'. -/
def fnExactReversalOfUptoCard : Claim7 := { stood := { row := fnExactReversalOfUptoRow, standIns := [], harness := (true, "ec7fb62b521a9ebec2f68fbc66e87e082f9630c430afa67c2787ae87507fd036"), looks := true }, kinds := [], alts := [], laidByText := true, laidKinds := [.data, .data, .data], laidTests := true, laidLooks := .later }
def FnExactReversalOfUptoCardSaid : Prop := Claim7.holds Tryd.pinned (.plain (OpenSpec.upto fnExactReversalOfSpec)) fnExactReversalOfUptoCard

/-- THE SECOND FORM's CARD OF 'laws.FnExactAntipodeOf'. -/
def fnExactAntipodeOfUptoCard : Claim7 := { stood := { row := fnExactAntipodeOfUptoRow, standIns := [], harness := (true, "ec7fb62b521a9ebec2f68fbc66e87e082f9630c430afa67c2787ae87507fd036"), looks := true }, kinds := [], alts := [], laidByText := true, laidKinds := [.data, .data, .data], laidTests := true, laidLooks := .later }
def FnExactAntipodeOfUptoCardSaid : Prop := Claim7.holds Tryd.pinned (.plain (OpenSpec.upto fnExactAntipodeOfSpec)) fnExactAntipodeOfUptoCard

/-- THE SECOND FORM's CARD OF 'laws.FnExactAreSignaturesEqual'. -/
def fnExactAreSignaturesEqualUptoCard : Claim7 := { stood := { row := fnExactAreSignaturesEqualUptoRow, standIns := [], harness := (true, "ec7fb62b521a9ebec2f68fbc66e87e082f9630c430afa67c2787ae87507fd036"), looks := true }, kinds := [], alts := [], laidByText := true, laidKinds := [.data, .data, .data], laidTests := true, laidLooks := .later }
def FnExactAreSignaturesEqualUptoCardSaid : Prop := Claim7.holds Tryd.pinned (.plain (OpenSpec.upto fnExactAreSignaturesEqualSpec)) fnExactAreSignaturesEqualUptoCard

/-- THE SECOND FORM's CARD OF 'laws.FnExactRepeatedBracket'. -/
def fnExactRepeatedBracketUptoCard : Claim7 := { stood := { row := fnExactRepeatedBracketUptoRow, standIns := [], harness := (true, "ec7fb62b521a9ebec2f68fbc66e87e082f9630c430afa67c2787ae87507fd036"), looks := true }, kinds := [], alts := [], laidByText := true, laidKinds := [.data, .data, .data], laidTests := true, laidLooks := .later }
def FnExactRepeatedBracketUptoCardSaid : Prop := Claim7.holds Tryd.pinned (.plain (OpenSpec.upto fnExactRepeatedBracketSpec)) fnExactRepeatedBracketUptoCard
end Rows
end Go.Proofs.YtoeednnkadmjpaaDoor
