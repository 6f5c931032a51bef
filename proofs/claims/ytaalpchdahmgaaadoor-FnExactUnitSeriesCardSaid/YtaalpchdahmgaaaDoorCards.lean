/-
  DERIVED. GIVEN WITH THE SEED: THE CARDS: each row of YtaalpchdahmgaaaDoorRows.lean that lists a variable, with what it lists TIED to the program's text (the seventh form; the later family's looks); each row that meets fmt, with fmt's text TOLD by the authors' own Lean function (tested against real Go, not proved from fmt's source: count such statements apart). THE CARD IS WHAT COUNTS. Prove the row's statement (the work); the ties are given (YtaalpchdahmgaaaDoorTie.lean); close each card by the builder's one call (the guide's Derived/Test/ToyasCard.lean, 'card_holds'). Laid BY PROGRAM, IN A SANDBOX (cutbox-door.mjs). By AI agents, Wed Nov 11 2026. No macro, syntax, notation, axiom, sorry.
-/
import Derived.Test.YtaalpchdahmgaaaDoorRows
import GoSem.ClaimSeven
namespace Go.Proofs.YtaalpchdahmgaaaDoor
namespace Rows

/-- THE TIED CARD OF 'laws.FnExactWordsOf'. -/
def fnExactWordsOfCard : Claim7 := { stood := { row := fnExactWordsOfRow, standIns := [], harness := (true, "55dc1045868364e1dcdd7557b322a6750a1a73c73c91bce4b57bd4d07a81a936"), looks := true }, kinds := [], alts := [], laidByText := true, laidKinds := [.data, .data, .data], laidTests := true, laidLooks := .later }
def FnExactWordsOfCardSaid : Prop := Claim7.holds Tryd.pinned (.plain (OpenSpec.ofChange fnExactWordsOfSpec)) fnExactWordsOfCard

/-- THE TIED CARD OF 'laws.FnExactFractionText'. -/
def fnExactFractionTextCard : Claim7 := { stood := { row := fnExactFractionTextRow, standIns := [], harness := (true, "55dc1045868364e1dcdd7557b322a6750a1a73c73c91bce4b57bd4d07a81a936"), looks := true }, kinds := [], alts := [], laidByText := true, laidKinds := [.data, .data, .data], laidTests := true, laidLooks := .later }
def FnExactFractionTextCardSaid : Prop := Claim7.holds Tryd.pinned (.plain (OpenSpec.ofChange fnExactFractionTextSpec)) fnExactFractionTextCard

/-- THE TIED CARD OF 'laws.FnExactUnitSeries'. -/
def fnExactUnitSeriesCard : Claim7 := { stood := { row := fnExactUnitSeriesRow, standIns := [], harness := (true, "55dc1045868364e1dcdd7557b322a6750a1a73c73c91bce4b57bd4d07a81a936"), looks := true }, kinds := [], alts := [], laidByText := true, laidKinds := [.data, .data, .data], laidTests := true, laidLooks := .later }
def FnExactUnitSeriesCardSaid : Prop := Claim7.holds Tryd.pinned (.plain (OpenSpec.ofChange fnExactUnitSeriesSpec)) fnExactUnitSeriesCard

/-- THE TIED CARD OF 'laws.FnExactMultiplySeries'. -/
def fnExactMultiplySeriesCard : Claim7 := { stood := { row := fnExactMultiplySeriesRow, standIns := [], harness := (true, "55dc1045868364e1dcdd7557b322a6750a1a73c73c91bce4b57bd4d07a81a936"), looks := true }, kinds := [], alts := [], laidByText := true, laidKinds := [.data, .data, .data], laidTests := true, laidLooks := .later }
def FnExactMultiplySeriesCardSaid : Prop := Claim7.holds Tryd.pinned (.plain (OpenSpec.ofChange fnExactMultiplySeriesSpec)) fnExactMultiplySeriesCard

/-- THE TIED CARD OF 'laws.FnExactReversalOf'. -/
def fnExactReversalOfCard : Claim7 := { stood := { row := fnExactReversalOfRow, standIns := [], harness := (true, "55dc1045868364e1dcdd7557b322a6750a1a73c73c91bce4b57bd4d07a81a936"), looks := true }, kinds := [], alts := [], laidByText := true, laidKinds := [.data, .data, .data], laidTests := true, laidLooks := .later }
def FnExactReversalOfCardSaid : Prop := Claim7.holds Tryd.pinned (.plain (OpenSpec.ofChange fnExactReversalOfSpec)) fnExactReversalOfCard

/-- THE TIED CARD OF 'laws.FnExactAntipodeOf'. -/
def fnExactAntipodeOfCard : Claim7 := { stood := { row := fnExactAntipodeOfRow, standIns := [], harness := (true, "55dc1045868364e1dcdd7557b322a6750a1a73c73c91bce4b57bd4d07a81a936"), looks := true }, kinds := [], alts := [], laidByText := true, laidKinds := [.data, .data, .data], laidTests := true, laidLooks := .later }
def FnExactAntipodeOfCardSaid : Prop := Claim7.holds Tryd.pinned (.plain (OpenSpec.ofChange fnExactAntipodeOfSpec)) fnExactAntipodeOfCard

/-- THE TIED CARD OF 'laws.FnExactShuffleWords'. -/
def fnExactShuffleWordsCard : Claim7 := { stood := { row := fnExactShuffleWordsRow, standIns := [], harness := (true, "55dc1045868364e1dcdd7557b322a6750a1a73c73c91bce4b57bd4d07a81a936"), looks := true }, kinds := [], alts := [], laidByText := true, laidKinds := [.data, .data, .data], laidTests := true, laidLooks := .later }
def FnExactShuffleWordsCardSaid : Prop := Claim7.holds Tryd.pinned (.plain (OpenSpec.ofChange fnExactShuffleWordsSpec)) fnExactShuffleWordsCard

/-- THE TIED CARD OF 'laws.FnExactShufflePower'. -/
def fnExactShufflePowerCard : Claim7 := { stood := { row := fnExactShufflePowerRow, standIns := [], harness := (true, "55dc1045868364e1dcdd7557b322a6750a1a73c73c91bce4b57bd4d07a81a936"), looks := true }, kinds := [], alts := [], laidByText := true, laidKinds := [.data, .data, .data], laidTests := true, laidLooks := .later }
def FnExactShufflePowerCardSaid : Prop := Claim7.holds Tryd.pinned (.plain (OpenSpec.ofChange fnExactShufflePowerSpec)) fnExactShufflePowerCard

/-- THE TIED CARD OF 'laws.FnExactValueAtShuffle'. -/
def fnExactValueAtShuffleCard : Claim7 := { stood := { row := fnExactValueAtShuffleRow, standIns := [], harness := (true, "55dc1045868364e1dcdd7557b322a6750a1a73c73c91bce4b57bd4d07a81a936"), looks := true }, kinds := [], alts := [], laidByText := true, laidKinds := [.data, .data, .data], laidTests := true, laidLooks := .later }
def FnExactValueAtShuffleCardSaid : Prop := Claim7.holds Tryd.pinned (.plain (OpenSpec.ofChange fnExactValueAtShuffleSpec)) fnExactValueAtShuffleCard

/-- THE TIED CARD OF 'laws.FnExactIsGroupLike'. -/
def fnExactIsGroupLikeCard : Claim7 := { stood := { row := fnExactIsGroupLikeRow, standIns := [], harness := (true, "55dc1045868364e1dcdd7557b322a6750a1a73c73c91bce4b57bd4d07a81a936"), looks := true }, kinds := [], alts := [], laidByText := true, laidKinds := [.data, .data, .data], laidTests := true, laidLooks := .later }
def FnExactIsGroupLikeCardSaid : Prop := Claim7.holds Tryd.pinned (.plain (OpenSpec.ofChange fnExactIsGroupLikeSpec)) fnExactIsGroupLikeCard

/-- THE TIED CARD OF 'laws.FnExactIsLieSeries'. -/
def fnExactIsLieSeriesCard : Claim7 := { stood := { row := fnExactIsLieSeriesRow, standIns := [], harness := (true, "55dc1045868364e1dcdd7557b322a6750a1a73c73c91bce4b57bd4d07a81a936"), looks := true }, kinds := [], alts := [], laidByText := true, laidKinds := [.data, .data, .data], laidTests := true, laidLooks := .later }
def FnExactIsLieSeriesCardSaid : Prop := Claim7.holds Tryd.pinned (.plain (OpenSpec.ofChange fnExactIsLieSeriesSpec)) fnExactIsLieSeriesCard

/-- THE TIED CARD OF 'laws.FnWordNumbers'. -/
def fnWordNumbersCard : Claim7 := { stood := { row := fnWordNumbersRow, standIns := [], harness := (true, "55dc1045868364e1dcdd7557b322a6750a1a73c73c91bce4b57bd4d07a81a936"), looks := true }, kinds := [], alts := [], laidByText := true, laidKinds := [.data, .data, .data], laidTests := true, laidLooks := .later }
def FnWordNumbersCardSaid : Prop := Claim7.holds Tryd.pinned (.plain (OpenSpec.ofChange fnWordNumbersSpec)) fnWordNumbersCard

/-- THE SECOND FORM's CARD OF 'laws.FnExactWordsOf'. -/
def fnExactWordsOfUptoCard : Claim7 := { stood := { row := fnExactWordsOfUptoRow, standIns := [], harness := (true, "55dc1045868364e1dcdd7557b322a6750a1a73c73c91bce4b57bd4d07a81a936"), looks := true }, kinds := [], alts := [], laidByText := true, laidKinds := [.data, .data, .data], laidTests := true, laidLooks := .later }
def FnExactWordsOfUptoCardSaid : Prop := Claim7.holds Tryd.pinned (.plain (OpenSpec.upto fnExactWordsOfSpec)) fnExactWordsOfUptoCard

/-- THE SECOND FORM's CARD OF 'laws.FnExactFractionText'. -/
def fnExactFractionTextUptoCard : Claim7 := { stood := { row := fnExactFractionTextUptoRow, standIns := [], harness := (true, "55dc1045868364e1dcdd7557b322a6750a1a73c73c91bce4b57bd4d07a81a936"), looks := true }, kinds := [], alts := [], laidByText := true, laidKinds := [.data, .data, .data], laidTests := true, laidLooks := .later }
def FnExactFractionTextUptoCardSaid : Prop := Claim7.holds Tryd.pinned (.plain (OpenSpec.upto fnExactFractionTextSpec)) fnExactFractionTextUptoCard

/-- THE SECOND FORM's CARD OF 'laws.FnExactUnitSeries'. -/
def fnExactUnitSeriesUptoCard : Claim7 := { stood := { row := fnExactUnitSeriesUptoRow, standIns := [], harness := (true, "55dc1045868364e1dcdd7557b322a6750a1a73c73c91bce4b57bd4d07a81a936"), looks := true }, kinds := [], alts := [], laidByText := true, laidKinds := [.data, .data, .data], laidTests := true, laidLooks := .later }
def FnExactUnitSeriesUptoCardSaid : Prop := Claim7.holds Tryd.pinned (.plain (OpenSpec.upto fnExactUnitSeriesSpec)) fnExactUnitSeriesUptoCard

/-- THE SECOND FORM's CARD OF 'laws.FnExactMultiplySeries'. -/
def fnExactMultiplySeriesUptoCard : Claim7 := { stood := { row := fnExactMultiplySeriesUptoRow, standIns := [], harness := (true, "55dc1045868364e1dcdd7557b322a6750a1a73c73c91bce4b57bd4d07a81a936"), looks := true }, kinds := [], alts := [], laidByText := true, laidKinds := [.data, .data, .data], laidTests := true, laidLooks := .later }
def FnExactMultiplySeriesUptoCardSaid : Prop := Claim7.holds Tryd.pinned (.plain (OpenSpec.upto fnExactMultiplySeriesSpec)) fnExactMultiplySeriesUptoCard

/-- THE SECOND FORM's CARD OF 'laws.FnExactReversalOf'. -/
def fnExactReversalOfUptoCard : Claim7 := { stood := { row := fnExactReversalOfUptoRow, standIns := [], harness := (true, "55dc1045868364e1dcdd7557b322a6750a1a73c73c91bce4b57bd4d07a81a936"), looks := true }, kinds := [], alts := [], laidByText := true, laidKinds := [.data, .data, .data], laidTests := true, laidLooks := .later }
def FnExactReversalOfUptoCardSaid : Prop := Claim7.holds Tryd.pinned (.plain (OpenSpec.upto fnExactReversalOfSpec)) fnExactReversalOfUptoCard

/-- THE SECOND FORM's CARD OF 'laws.FnExactAntipodeOf'. -/
def fnExactAntipodeOfUptoCard : Claim7 := { stood := { row := fnExactAntipodeOfUptoRow, standIns := [], harness := (true, "55dc1045868364e1dcdd7557b322a6750a1a73c73c91bce4b57bd4d07a81a936"), looks := true }, kinds := [], alts := [], laidByText := true, laidKinds := [.data, .data, .data], laidTests := true, laidLooks := .later }
def FnExactAntipodeOfUptoCardSaid : Prop := Claim7.holds Tryd.pinned (.plain (OpenSpec.upto fnExactAntipodeOfSpec)) fnExactAntipodeOfUptoCard

/-- THE SECOND FORM's CARD OF 'laws.FnExactShuffleWords'. -/
def fnExactShuffleWordsUptoCard : Claim7 := { stood := { row := fnExactShuffleWordsUptoRow, standIns := [], harness := (true, "55dc1045868364e1dcdd7557b322a6750a1a73c73c91bce4b57bd4d07a81a936"), looks := true }, kinds := [], alts := [], laidByText := true, laidKinds := [.data, .data, .data], laidTests := true, laidLooks := .later }
def FnExactShuffleWordsUptoCardSaid : Prop := Claim7.holds Tryd.pinned (.plain (OpenSpec.upto fnExactShuffleWordsSpec)) fnExactShuffleWordsUptoCard

/-- THE SECOND FORM's CARD OF 'laws.FnExactShufflePower'. -/
def fnExactShufflePowerUptoCard : Claim7 := { stood := { row := fnExactShufflePowerUptoRow, standIns := [], harness := (true, "55dc1045868364e1dcdd7557b322a6750a1a73c73c91bce4b57bd4d07a81a936"), looks := true }, kinds := [], alts := [], laidByText := true, laidKinds := [.data, .data, .data], laidTests := true, laidLooks := .later }
def FnExactShufflePowerUptoCardSaid : Prop := Claim7.holds Tryd.pinned (.plain (OpenSpec.upto fnExactShufflePowerSpec)) fnExactShufflePowerUptoCard

/-- THE SECOND FORM's CARD OF 'laws.FnExactValueAtShuffle'. -/
def fnExactValueAtShuffleUptoCard : Claim7 := { stood := { row := fnExactValueAtShuffleUptoRow, standIns := [], harness := (true, "55dc1045868364e1dcdd7557b322a6750a1a73c73c91bce4b57bd4d07a81a936"), looks := true }, kinds := [], alts := [], laidByText := true, laidKinds := [.data, .data, .data], laidTests := true, laidLooks := .later }
def FnExactValueAtShuffleUptoCardSaid : Prop := Claim7.holds Tryd.pinned (.plain (OpenSpec.upto fnExactValueAtShuffleSpec)) fnExactValueAtShuffleUptoCard

/-- THE SECOND FORM's CARD OF 'laws.FnExactIsGroupLike'. -/
def fnExactIsGroupLikeUptoCard : Claim7 := { stood := { row := fnExactIsGroupLikeUptoRow, standIns := [], harness := (true, "55dc1045868364e1dcdd7557b322a6750a1a73c73c91bce4b57bd4d07a81a936"), looks := true }, kinds := [], alts := [], laidByText := true, laidKinds := [.data, .data, .data], laidTests := true, laidLooks := .later }
def FnExactIsGroupLikeUptoCardSaid : Prop := Claim7.holds Tryd.pinned (.plain (OpenSpec.upto fnExactIsGroupLikeSpec)) fnExactIsGroupLikeUptoCard

/-- THE SECOND FORM's CARD OF 'laws.FnExactIsLieSeries'. -/
def fnExactIsLieSeriesUptoCard : Claim7 := { stood := { row := fnExactIsLieSeriesUptoRow, standIns := [], harness := (true, "55dc1045868364e1dcdd7557b322a6750a1a73c73c91bce4b57bd4d07a81a936"), looks := true }, kinds := [], alts := [], laidByText := true, laidKinds := [.data, .data, .data], laidTests := true, laidLooks := .later }
def FnExactIsLieSeriesUptoCardSaid : Prop := Claim7.holds Tryd.pinned (.plain (OpenSpec.upto fnExactIsLieSeriesSpec)) fnExactIsLieSeriesUptoCard

/-- THE SECOND FORM's CARD OF 'laws.FnWordNumbers'. -/
def fnWordNumbersUptoCard : Claim7 := { stood := { row := fnWordNumbersUptoRow, standIns := [], harness := (true, "55dc1045868364e1dcdd7557b322a6750a1a73c73c91bce4b57bd4d07a81a936"), looks := true }, kinds := [], alts := [], laidByText := true, laidKinds := [.data, .data, .data], laidTests := true, laidLooks := .later }
def FnWordNumbersUptoCardSaid : Prop := Claim7.holds Tryd.pinned (.plain (OpenSpec.upto fnWordNumbersSpec)) fnWordNumbersUptoCard
end Rows
end Go.Proofs.YtaalpchdahmgaaaDoor
