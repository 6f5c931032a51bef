/-
  DERIVED. GIVEN WITH THE SEED: THE CARDS: each row of YtdnojljhcpcheaaDoorRows.lean that lists a variable, with what it lists TIED to the program's text (the seventh form; the later family's looks); each row that meets fmt, with fmt's text TOLD by the authors' own Lean function (tested against real Go, not proved from fmt's source: count such statements apart). THE CARD IS WHAT COUNTS. Prove the row's statement (the work); the ties are given (YtdnojljhcpcheaaDoorTie.lean); close each card by the builder's one call (the guide's Derived/Test/ToyasCard.lean, 'card_holds'). Laid BY PROGRAM, IN A SANDBOX (cutbox-door.mjs). By AI agents, Wed Nov 11 2026. No macro, syntax, notation, axiom, sorry.
-/
import Derived.Test.YtdnojljhcpcheaaDoorRows
import GoSem.ClaimSeven
namespace Go.Proofs.YtdnojljhcpcheaaDoor
namespace Rows

/-- THE TIED CARD OF 'laws.FnFractions'. -/
def fnFractionsCard : Claim7 := { stood := { row := fnFractionsRow, standIns := [], harness := (true, "d0be1bdc9babac9dc9356e0497678a2d3ae24fe5981a821a3e9475958f1c725a"), looks := true }, kinds := [], alts := [], laidByText := true, laidKinds := [.data, .data, .data, .sentinel, .sentinel], laidTests := true, laidLooks := .later }
def FnFractionsCardSaid : Prop := Claim7.holds Tryd.pinned (.plain (OpenSpec.ofChange fnFractionsSpec)) fnFractionsCard

/-- THE TIED CARD OF 'laws.FnWordNumbers'. -/
def fnWordNumbersCard : Claim7 := { stood := { row := fnWordNumbersRow, standIns := [], harness := (true, "d0be1bdc9babac9dc9356e0497678a2d3ae24fe5981a821a3e9475958f1c725a"), looks := true }, kinds := [], alts := [], laidByText := true, laidKinds := [.data, .data, .data], laidTests := true, laidLooks := .later }
def FnWordNumbersCardSaid : Prop := Claim7.holds Tryd.pinned (.plain (OpenSpec.ofChange fnWordNumbersSpec)) fnWordNumbersCard

/-- THE TIED CARD OF 'laws.FnExactWordsOf'. -/
def fnExactWordsOfCard : Claim7 := { stood := { row := fnExactWordsOfRow, standIns := [], harness := (true, "d0be1bdc9babac9dc9356e0497678a2d3ae24fe5981a821a3e9475958f1c725a"), looks := true }, kinds := [], alts := [], laidByText := true, laidKinds := [.data, .data, .data], laidTests := true, laidLooks := .later }
def FnExactWordsOfCardSaid : Prop := Claim7.holds Tryd.pinned (.plain (OpenSpec.ofChange fnExactWordsOfSpec)) fnExactWordsOfCard

/-- THE TIED CARD OF 'laws.FnExactWordOfNumber'. -/
def fnExactWordOfNumberCard : Claim7 := { stood := { row := fnExactWordOfNumberRow, standIns := [], harness := (true, "d0be1bdc9babac9dc9356e0497678a2d3ae24fe5981a821a3e9475958f1c725a"), looks := true }, kinds := [], alts := [], laidByText := true, laidKinds := [.data, .data, .data], laidTests := true, laidLooks := .later }
def FnExactWordOfNumberCardSaid : Prop := Claim7.holds Tryd.pinned (.plain (OpenSpec.ofChange fnExactWordOfNumberSpec)) fnExactWordOfNumberCard

/-- THE TIED CARD OF 'laws.FnExactLetterSeries'. -/
def fnExactLetterSeriesCard : Claim7 := { stood := { row := fnExactLetterSeriesRow, standIns := [], harness := (true, "d0be1bdc9babac9dc9356e0497678a2d3ae24fe5981a821a3e9475958f1c725a"), looks := true }, kinds := [], alts := [], laidByText := true, laidKinds := [.data, .data, .data], laidTests := true, laidLooks := .later }
def FnExactLetterSeriesCardSaid : Prop := Claim7.holds Tryd.pinned (.plain (OpenSpec.ofChange fnExactLetterSeriesSpec)) fnExactLetterSeriesCard

/-- THE TIED CARD OF 'laws.FnExactFractionText'. -/
def fnExactFractionTextCard : Claim7 := { stood := { row := fnExactFractionTextRow, standIns := [], harness := (true, "d0be1bdc9babac9dc9356e0497678a2d3ae24fe5981a821a3e9475958f1c725a"), looks := true }, kinds := [], alts := [], laidByText := true, laidKinds := [.data, .data, .data], laidTests := true, laidLooks := .later }
def FnExactFractionTextCardSaid : Prop := Claim7.holds Tryd.pinned (.plain (OpenSpec.ofChange fnExactFractionTextSpec)) fnExactFractionTextCard

/-- THE TIED CARD OF 'laws.FnExactParseFraction'. -/
def fnExactParseFractionCard : Claim7 := { stood := { row := fnExactParseFractionRow, standIns := [], harness := (true, "d0be1bdc9babac9dc9356e0497678a2d3ae24fe5981a821a3e9475958f1c725a"), looks := true }, kinds := [], alts := [], laidByText := true, laidKinds := [.data, .data, .data, .sentinel, .sentinel], laidTests := true, laidLooks := .later }
def FnExactParseFractionCardSaid : Prop := Claim7.holds Tryd.pinned (.plain (OpenSpec.ofChange fnExactParseFractionSpec)) fnExactParseFractionCard

/-- THE TIED CARD OF 'laws.FnExactSeriesText'. -/
def fnExactSeriesTextCard : Claim7 := { stood := { row := fnExactSeriesTextRow, standIns := [], harness := (true, "d0be1bdc9babac9dc9356e0497678a2d3ae24fe5981a821a3e9475958f1c725a"), looks := true }, kinds := [], alts := [], laidByText := true, laidKinds := [.data, .data, .data], laidTests := true, laidLooks := .later }
def FnExactSeriesTextCardSaid : Prop := Claim7.holds Tryd.pinned (.plain (OpenSpec.ofChange fnExactSeriesTextSpec)) fnExactSeriesTextCard

/-- THE TIED CARD OF 'laws.FnExactParseSeries'. -/
def fnExactParseSeriesCard : Claim7 := { stood := { row := fnExactParseSeriesRow, standIns := [], harness := (true, "d0be1bdc9babac9dc9356e0497678a2d3ae24fe5981a821a3e9475958f1c725a"), looks := true }, kinds := [], alts := [], laidByText := true, laidKinds := [.data, .data, .data, .data, .sentinel, .sentinel, .pinned], laidTests := true, laidLooks := .later }
def FnExactParseSeriesCardSaid : Prop := Claim7.holds Tryd.pinned (.plain (OpenSpec.ofChange fnExactParseSeriesSpec)) fnExactParseSeriesCard

/-- THE TIED CARD OF 'laws.FnExactUnitSeries'. -/
def fnExactUnitSeriesCard : Claim7 := { stood := { row := fnExactUnitSeriesRow, standIns := [], harness := (true, "d0be1bdc9babac9dc9356e0497678a2d3ae24fe5981a821a3e9475958f1c725a"), looks := true }, kinds := [], alts := [], laidByText := true, laidKinds := [.data, .data, .data], laidTests := true, laidLooks := .later }
def FnExactUnitSeriesCardSaid : Prop := Claim7.holds Tryd.pinned (.plain (OpenSpec.ofChange fnExactUnitSeriesSpec)) fnExactUnitSeriesCard

/-- THE TIED CARD OF 'laws.FnExactMultiplySeries'. -/
def fnExactMultiplySeriesCard : Claim7 := { stood := { row := fnExactMultiplySeriesRow, standIns := [], harness := (true, "d0be1bdc9babac9dc9356e0497678a2d3ae24fe5981a821a3e9475958f1c725a"), looks := true }, kinds := [], alts := [], laidByText := true, laidKinds := [.data, .data, .data], laidTests := true, laidLooks := .later }
def FnExactMultiplySeriesCardSaid : Prop := Claim7.holds Tryd.pinned (.plain (OpenSpec.ofChange fnExactMultiplySeriesSpec)) fnExactMultiplySeriesCard

/-- THE TIED CARD OF 'laws.FnExactPowerSeries'. -/
def fnExactPowerSeriesCard : Claim7 := { stood := { row := fnExactPowerSeriesRow, standIns := [], harness := (true, "d0be1bdc9babac9dc9356e0497678a2d3ae24fe5981a821a3e9475958f1c725a"), looks := true }, kinds := [], alts := [], laidByText := true, laidKinds := [.data, .data, .data], laidTests := true, laidLooks := .later }
def FnExactPowerSeriesCardSaid : Prop := Claim7.holds Tryd.pinned (.plain (OpenSpec.ofChange fnExactPowerSeriesSpec)) fnExactPowerSeriesCard

/-- THE TIED CARD OF 'laws.FnExactCommutatorOf'. -/
def fnExactCommutatorOfCard : Claim7 := { stood := { row := fnExactCommutatorOfRow, standIns := [], harness := (true, "d0be1bdc9babac9dc9356e0497678a2d3ae24fe5981a821a3e9475958f1c725a"), looks := true }, kinds := [], alts := [], laidByText := true, laidKinds := [.data, .data, .data], laidTests := true, laidLooks := .later }
def FnExactCommutatorOfCardSaid : Prop := Claim7.holds Tryd.pinned (.plain (OpenSpec.ofChange fnExactCommutatorOfSpec)) fnExactCommutatorOfCard

/-- THE TIED CARD OF 'laws.FnExactReversalOf'. -/
def fnExactReversalOfCard : Claim7 := { stood := { row := fnExactReversalOfRow, standIns := [], harness := (true, "d0be1bdc9babac9dc9356e0497678a2d3ae24fe5981a821a3e9475958f1c725a"), looks := true }, kinds := [], alts := [], laidByText := true, laidKinds := [.data, .data, .data], laidTests := true, laidLooks := .later }
def FnExactReversalOfCardSaid : Prop := Claim7.holds Tryd.pinned (.plain (OpenSpec.ofChange fnExactReversalOfSpec)) fnExactReversalOfCard

/-- THE TIED CARD OF 'laws.FnExactAntipodeOf'. -/
def fnExactAntipodeOfCard : Claim7 := { stood := { row := fnExactAntipodeOfRow, standIns := [], harness := (true, "d0be1bdc9babac9dc9356e0497678a2d3ae24fe5981a821a3e9475958f1c725a"), looks := true }, kinds := [], alts := [], laidByText := true, laidKinds := [.data, .data, .data], laidTests := true, laidLooks := .later }
def FnExactAntipodeOfCardSaid : Prop := Claim7.holds Tryd.pinned (.plain (OpenSpec.ofChange fnExactAntipodeOfSpec)) fnExactAntipodeOfCard

/-- THE SECOND FORM's CARD OF 'laws.FnFractions'. -/
def fnFractionsUptoCard : Claim7 := { stood := { row := fnFractionsUptoRow, standIns := [], harness := (true, "d0be1bdc9babac9dc9356e0497678a2d3ae24fe5981a821a3e9475958f1c725a"), looks := true }, kinds := [], alts := [], laidByText := true, laidKinds := [.data, .data, .data, .sentinel, .sentinel], laidTests := true, laidLooks := .later }
def FnFractionsUptoCardSaid : Prop := Claim7.holds Tryd.pinned (.plain (OpenSpec.upto fnFractionsSpec)) fnFractionsUptoCard

/-- THE SECOND FORM's CARD OF 'laws.FnWordNumbers'. -/
def fnWordNumbersUptoCard : Claim7 := { stood := { row := fnWordNumbersUptoRow, standIns := [], harness := (true, "d0be1bdc9babac9dc9356e0497678a2d3ae24fe5981a821a3e9475958f1c725a"), looks := true }, kinds := [], alts := [], laidByText := true, laidKinds := [.data, .data, .data], laidTests := true, laidLooks := .later }
def FnWordNumbersUptoCardSaid : Prop := Claim7.holds Tryd.pinned (.plain (OpenSpec.upto fnWordNumbersSpec)) fnWordNumbersUptoCard

/-- THE SECOND FORM's CARD OF 'laws.FnExactWordsOf'. -/
def fnExactWordsOfUptoCard : Claim7 := { stood := { row := fnExactWordsOfUptoRow, standIns := [], harness := (true, "d0be1bdc9babac9dc9356e0497678a2d3ae24fe5981a821a3e9475958f1c725a"), looks := true }, kinds := [], alts := [], laidByText := true, laidKinds := [.data, .data, .data], laidTests := true, laidLooks := .later }
def FnExactWordsOfUptoCardSaid : Prop := Claim7.holds Tryd.pinned (.plain (OpenSpec.upto fnExactWordsOfSpec)) fnExactWordsOfUptoCard

/-- THE SECOND FORM's CARD OF 'laws.FnExactWordOfNumber'. -/
def fnExactWordOfNumberUptoCard : Claim7 := { stood := { row := fnExactWordOfNumberUptoRow, standIns := [], harness := (true, "d0be1bdc9babac9dc9356e0497678a2d3ae24fe5981a821a3e9475958f1c725a"), looks := true }, kinds := [], alts := [], laidByText := true, laidKinds := [.data, .data, .data], laidTests := true, laidLooks := .later }
def FnExactWordOfNumberUptoCardSaid : Prop := Claim7.holds Tryd.pinned (.plain (OpenSpec.upto fnExactWordOfNumberSpec)) fnExactWordOfNumberUptoCard

/-- THE SECOND FORM's CARD OF 'laws.FnExactLetterSeries'. -/
def fnExactLetterSeriesUptoCard : Claim7 := { stood := { row := fnExactLetterSeriesUptoRow, standIns := [], harness := (true, "d0be1bdc9babac9dc9356e0497678a2d3ae24fe5981a821a3e9475958f1c725a"), looks := true }, kinds := [], alts := [], laidByText := true, laidKinds := [.data, .data, .data], laidTests := true, laidLooks := .later }
def FnExactLetterSeriesUptoCardSaid : Prop := Claim7.holds Tryd.pinned (.plain (OpenSpec.upto fnExactLetterSeriesSpec)) fnExactLetterSeriesUptoCard

/-- THE SECOND FORM's CARD OF 'laws.FnExactFractionText'. -/
def fnExactFractionTextUptoCard : Claim7 := { stood := { row := fnExactFractionTextUptoRow, standIns := [], harness := (true, "d0be1bdc9babac9dc9356e0497678a2d3ae24fe5981a821a3e9475958f1c725a"), looks := true }, kinds := [], alts := [], laidByText := true, laidKinds := [.data, .data, .data], laidTests := true, laidLooks := .later }
def FnExactFractionTextUptoCardSaid : Prop := Claim7.holds Tryd.pinned (.plain (OpenSpec.upto fnExactFractionTextSpec)) fnExactFractionTextUptoCard

/-- THE SECOND FORM's CARD OF 'laws.FnExactParseFraction'. -/
def fnExactParseFractionUptoCard : Claim7 := { stood := { row := fnExactParseFractionUptoRow, standIns := [], harness := (true, "d0be1bdc9babac9dc9356e0497678a2d3ae24fe5981a821a3e9475958f1c725a"), looks := true }, kinds := [], alts := [], laidByText := true, laidKinds := [.data, .data, .data, .sentinel, .sentinel], laidTests := true, laidLooks := .later }
def FnExactParseFractionUptoCardSaid : Prop := Claim7.holds Tryd.pinned (.plain (OpenSpec.upto fnExactParseFractionSpec)) fnExactParseFractionUptoCard

/-- THE SECOND FORM's CARD OF 'laws.FnExactSeriesText'. -/
def fnExactSeriesTextUptoCard : Claim7 := { stood := { row := fnExactSeriesTextUptoRow, standIns := [], harness := (true, "d0be1bdc9babac9dc9356e0497678a2d3ae24fe5981a821a3e9475958f1c725a"), looks := true }, kinds := [], alts := [], laidByText := true, laidKinds := [.data, .data, .data], laidTests := true, laidLooks := .later }
def FnExactSeriesTextUptoCardSaid : Prop := Claim7.holds Tryd.pinned (.plain (OpenSpec.upto fnExactSeriesTextSpec)) fnExactSeriesTextUptoCard

/-- THE SECOND FORM's CARD OF 'laws.FnExactParseSeries'. -/
def fnExactParseSeriesUptoCard : Claim7 := { stood := { row := fnExactParseSeriesUptoRow, standIns := [], harness := (true, "d0be1bdc9babac9dc9356e0497678a2d3ae24fe5981a821a3e9475958f1c725a"), looks := true }, kinds := [], alts := [], laidByText := true, laidKinds := [.data, .data, .data, .data, .sentinel, .sentinel, .pinned], laidTests := true, laidLooks := .later }
def FnExactParseSeriesUptoCardSaid : Prop := Claim7.holds Tryd.pinned (.plain (OpenSpec.upto fnExactParseSeriesSpec)) fnExactParseSeriesUptoCard

/-- THE SECOND FORM's CARD OF 'laws.FnExactUnitSeries'. -/
def fnExactUnitSeriesUptoCard : Claim7 := { stood := { row := fnExactUnitSeriesUptoRow, standIns := [], harness := (true, "d0be1bdc9babac9dc9356e0497678a2d3ae24fe5981a821a3e9475958f1c725a"), looks := true }, kinds := [], alts := [], laidByText := true, laidKinds := [.data, .data, .data], laidTests := true, laidLooks := .later }
def FnExactUnitSeriesUptoCardSaid : Prop := Claim7.holds Tryd.pinned (.plain (OpenSpec.upto fnExactUnitSeriesSpec)) fnExactUnitSeriesUptoCard

/-- THE SECOND FORM's CARD OF 'laws.FnExactMultiplySeries'. -/
def fnExactMultiplySeriesUptoCard : Claim7 := { stood := { row := fnExactMultiplySeriesUptoRow, standIns := [], harness := (true, "d0be1bdc9babac9dc9356e0497678a2d3ae24fe5981a821a3e9475958f1c725a"), looks := true }, kinds := [], alts := [], laidByText := true, laidKinds := [.data, .data, .data], laidTests := true, laidLooks := .later }
def FnExactMultiplySeriesUptoCardSaid : Prop := Claim7.holds Tryd.pinned (.plain (OpenSpec.upto fnExactMultiplySeriesSpec)) fnExactMultiplySeriesUptoCard

/-- THE SECOND FORM's CARD OF 'laws.FnExactPowerSeries'. -/
def fnExactPowerSeriesUptoCard : Claim7 := { stood := { row := fnExactPowerSeriesUptoRow, standIns := [], harness := (true, "d0be1bdc9babac9dc9356e0497678a2d3ae24fe5981a821a3e9475958f1c725a"), looks := true }, kinds := [], alts := [], laidByText := true, laidKinds := [.data, .data, .data], laidTests := true, laidLooks := .later }
def FnExactPowerSeriesUptoCardSaid : Prop := Claim7.holds Tryd.pinned (.plain (OpenSpec.upto fnExactPowerSeriesSpec)) fnExactPowerSeriesUptoCard

/-- THE SECOND FORM's CARD OF 'laws.FnExactCommutatorOf'. -/
def fnExactCommutatorOfUptoCard : Claim7 := { stood := { row := fnExactCommutatorOfUptoRow, standIns := [], harness := (true, "d0be1bdc9babac9dc9356e0497678a2d3ae24fe5981a821a3e9475958f1c725a"), looks := true }, kinds := [], alts := [], laidByText := true, laidKinds := [.data, .data, .data], laidTests := true, laidLooks := .later }
def FnExactCommutatorOfUptoCardSaid : Prop := Claim7.holds Tryd.pinned (.plain (OpenSpec.upto fnExactCommutatorOfSpec)) fnExactCommutatorOfUptoCard

/-- THE SECOND FORM's CARD OF 'laws.FnExactReversalOf'. -/
def fnExactReversalOfUptoCard : Claim7 := { stood := { row := fnExactReversalOfUptoRow, standIns := [], harness := (true, "d0be1bdc9babac9dc9356e0497678a2d3ae24fe5981a821a3e9475958f1c725a"), looks := true }, kinds := [], alts := [], laidByText := true, laidKinds := [.data, .data, .data], laidTests := true, laidLooks := .later }
def FnExactReversalOfUptoCardSaid : Prop := Claim7.holds Tryd.pinned (.plain (OpenSpec.upto fnExactReversalOfSpec)) fnExactReversalOfUptoCard

/-- THE SECOND FORM's CARD OF 'laws.FnExactAntipodeOf'. -/
def fnExactAntipodeOfUptoCard : Claim7 := { stood := { row := fnExactAntipodeOfUptoRow, standIns := [], harness := (true, "d0be1bdc9babac9dc9356e0497678a2d3ae24fe5981a821a3e9475958f1c725a"), looks := true }, kinds := [], alts := [], laidByText := true, laidKinds := [.data, .data, .data], laidTests := true, laidLooks := .later }
def FnExactAntipodeOfUptoCardSaid : Prop := Claim7.holds Tryd.pinned (.plain (OpenSpec.upto fnExactAntipodeOfSpec)) fnExactAntipodeOfUptoCard
end Rows
end Go.Proofs.YtdnojljhcpcheaaDoor
