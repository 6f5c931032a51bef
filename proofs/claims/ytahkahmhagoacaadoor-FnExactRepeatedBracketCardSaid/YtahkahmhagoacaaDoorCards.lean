/-
  DERIVED. GIVEN WITH THE SEED: THE CARDS: each row of YtahkahmhagoacaaDoorRows.lean that lists a variable, with what it lists TIED to the program's text (the seventh form; the later family's looks); each row that meets fmt, with fmt's text TOLD by the authors' own Lean function (tested against real Go, not proved from fmt's source: count such statements apart). THE CARD IS WHAT COUNTS. Prove the row's statement (the work); the ties are given (YtahkahmhagoacaaDoorTie.lean); close each card by the builder's one call (the guide's Derived/Test/ToyasCard.lean, 'card_holds'). Laid BY PROGRAM, IN A SANDBOX (cutbox-door.mjs). By AI agents, Wed Nov 11 2026. No macro, syntax, notation, axiom, sorry.
-/
import Derived.Test.YtahkahmhagoacaaDoorRows
import GoSem.ClaimSeven
namespace Go.Proofs.YtahkahmhagoacaaDoor
namespace Rows

/-- THE TIED CARD OF 'laws.FnExactMultiplySeries'. -/
def fnExactMultiplySeriesCard : Claim7 := { stood := { row := fnExactMultiplySeriesRow, standIns := [], harness := (true, "489217d97e66ce2f6906c9fb4f99aa0468a94a340b66b23575affc38e259795e"), looks := true }, kinds := [], alts := [], laidByText := true, laidKinds := [.data, .data, .data], laidTests := true, laidLooks := .later }
def FnExactMultiplySeriesCardSaid : Prop := Claim7.holds Tryd.pinned (.plain (OpenSpec.ofChange fnExactMultiplySeriesSpec)) fnExactMultiplySeriesCard

/-- THE TIED CARD OF 'laws.FnExactPowerSeries'. -/
def fnExactPowerSeriesCard : Claim7 := { stood := { row := fnExactPowerSeriesRow, standIns := [], harness := (true, "489217d97e66ce2f6906c9fb4f99aa0468a94a340b66b23575affc38e259795e"), looks := true }, kinds := [], alts := [], laidByText := true, laidKinds := [.data, .data, .data], laidTests := true, laidLooks := .later }
def FnExactPowerSeriesCardSaid : Prop := Claim7.holds Tryd.pinned (.plain (OpenSpec.ofChange fnExactPowerSeriesSpec)) fnExactPowerSeriesCard

/-- THE TIED CARD OF 'laws.FnExactCommutatorOf'. -/
def fnExactCommutatorOfCard : Claim7 := { stood := { row := fnExactCommutatorOfRow, standIns := [], harness := (true, "489217d97e66ce2f6906c9fb4f99aa0468a94a340b66b23575affc38e259795e"), looks := true }, kinds := [], alts := [], laidByText := true, laidKinds := [.data, .data, .data], laidTests := true, laidLooks := .later }
def FnExactCommutatorOfCardSaid : Prop := Claim7.holds Tryd.pinned (.plain (OpenSpec.ofChange fnExactCommutatorOfSpec)) fnExactCommutatorOfCard

/-- THE TIED CARD OF 'laws.FnExactRepeatedBracket'. -/
def fnExactRepeatedBracketCard : Claim7 := { stood := { row := fnExactRepeatedBracketRow, standIns := [], harness := (true, "489217d97e66ce2f6906c9fb4f99aa0468a94a340b66b23575affc38e259795e"), looks := true }, kinds := [], alts := [], laidByText := true, laidKinds := [.data, .data, .data], laidTests := true, laidLooks := .later }
def FnExactRepeatedBracketCardSaid : Prop := Claim7.holds Tryd.pinned (.plain (OpenSpec.ofChange fnExactRepeatedBracketSpec)) fnExactRepeatedBracketCard

/-- THE SECOND FORM's CARD OF 'laws.FnExactMultiplySeries'. -/
def fnExactMultiplySeriesUptoCard : Claim7 := { stood := { row := fnExactMultiplySeriesUptoRow, standIns := [], harness := (true, "489217d97e66ce2f6906c9fb4f99aa0468a94a340b66b23575affc38e259795e"), looks := true }, kinds := [], alts := [], laidByText := true, laidKinds := [.data, .data, .data], laidTests := true, laidLooks := .later }
def FnExactMultiplySeriesUptoCardSaid : Prop := Claim7.holds Tryd.pinned (.plain (OpenSpec.upto fnExactMultiplySeriesSpec)) fnExactMultiplySeriesUptoCard

/-- THE SECOND FORM's CARD OF 'laws.FnExactPowerSeries'. -/
def fnExactPowerSeriesUptoCard : Claim7 := { stood := { row := fnExactPowerSeriesUptoRow, standIns := [], harness := (true, "489217d97e66ce2f6906c9fb4f99aa0468a94a340b66b23575affc38e259795e"), looks := true }, kinds := [], alts := [], laidByText := true, laidKinds := [.data, .data, .data], laidTests := true, laidLooks := .later }
def FnExactPowerSeriesUptoCardSaid : Prop := Claim7.holds Tryd.pinned (.plain (OpenSpec.upto fnExactPowerSeriesSpec)) fnExactPowerSeriesUptoCard

/-- THE SECOND FORM's CARD OF 'laws.FnExactCommutatorOf'. -/
def fnExactCommutatorOfUptoCard : Claim7 := { stood := { row := fnExactCommutatorOfUptoRow, standIns := [], harness := (true, "489217d97e66ce2f6906c9fb4f99aa0468a94a340b66b23575affc38e259795e"), looks := true }, kinds := [], alts := [], laidByText := true, laidKinds := [.data, .data, .data], laidTests := true, laidLooks := .later }
def FnExactCommutatorOfUptoCardSaid : Prop := Claim7.holds Tryd.pinned (.plain (OpenSpec.upto fnExactCommutatorOfSpec)) fnExactCommutatorOfUptoCard

/-- THE SECOND FORM's CARD OF 'laws.FnExactRepeatedBracket'. -/
def fnExactRepeatedBracketUptoCard : Claim7 := { stood := { row := fnExactRepeatedBracketUptoRow, standIns := [], harness := (true, "489217d97e66ce2f6906c9fb4f99aa0468a94a340b66b23575affc38e259795e"), looks := true }, kinds := [], alts := [], laidByText := true, laidKinds := [.data, .data, .data], laidTests := true, laidLooks := .later }
def FnExactRepeatedBracketUptoCardSaid : Prop := Claim7.holds Tryd.pinned (.plain (OpenSpec.upto fnExactRepeatedBracketSpec)) fnExactRepeatedBracketUptoCard
end Rows
end Go.Proofs.YtahkahmhagoacaaDoor
