/-
  DERIVED. GIVEN WITH THE SEED: THE CARDS: each row of YtddfijlgehpjfaaDoorRows.lean that lists a variable, with what it lists TIED to the program's text (the seventh form; the later family's looks); each row that meets fmt, with fmt's text TOLD by the authors' own Lean function (tested against real Go, not proved from fmt's source: count such statements apart). THE CARD IS WHAT COUNTS. Prove the row's statement (the work); the ties are given (YtddfijlgehpjfaaDoorTie.lean); close each card by the builder's one call (the guide's Derived/Test/ToyasCard.lean, 'card_holds'). Laid BY PROGRAM, IN A SANDBOX (cutbox-door.mjs). By AI agents, Wed Nov 11 2026. No macro, syntax, notation, axiom, sorry.
-/
import Derived.Test.YtddfijlgehpjfaaDoorRows
import GoSem.ClaimSeven
namespace Go.Proofs.YtddfijlgehpjfaaDoor
namespace Rows

/-- THE TIED CARD OF 'laws.FnExactSignatureOfWord'. -/
def fnExactSignatureOfWordCard : Claim7 := { stood := { row := fnExactSignatureOfWordRow, standIns := [], harness := (true, "f54c903f6e7537698229e74862d4f82427dad2073bfd0e32b6096c3922768cd0"), looks := true }, kinds := [], alts := [], laidByText := true, laidKinds := [.data, .data, .data], laidTests := true, laidLooks := .later }
def FnExactSignatureOfWordCardSaid : Prop := Claim7.holds Tryd.pinned (.plain (OpenSpec.ofChange fnExactSignatureOfWordSpec)) fnExactSignatureOfWordCard

/-- THE TIED CARD OF 'laws.FnExactDepthOfWord'. -/
def fnExactDepthOfWordCard : Claim7 := { stood := { row := fnExactDepthOfWordRow, standIns := [], harness := (true, "f54c903f6e7537698229e74862d4f82427dad2073bfd0e32b6096c3922768cd0"), looks := true }, kinds := [], alts := [], laidByText := true, laidKinds := [.data, .data, .data], laidTests := true, laidLooks := .later }
def FnExactDepthOfWordCardSaid : Prop := Claim7.holds Tryd.pinned (.plain (OpenSpec.ofChange fnExactDepthOfWordSpec)) fnExactDepthOfWordCard

/-- THE SECOND FORM's CARD OF 'laws.FnExactSignatureOfWord'. -/
def fnExactSignatureOfWordUptoCard : Claim7 := { stood := { row := fnExactSignatureOfWordUptoRow, standIns := [], harness := (true, "f54c903f6e7537698229e74862d4f82427dad2073bfd0e32b6096c3922768cd0"), looks := true }, kinds := [], alts := [], laidByText := true, laidKinds := [.data, .data, .data], laidTests := true, laidLooks := .later }
def FnExactSignatureOfWordUptoCardSaid : Prop := Claim7.holds Tryd.pinned (.plain (OpenSpec.upto fnExactSignatureOfWordSpec)) fnExactSignatureOfWordUptoCard

/-- THE SECOND FORM's CARD OF 'laws.FnExactDepthOfWord'. -/
def fnExactDepthOfWordUptoCard : Claim7 := { stood := { row := fnExactDepthOfWordUptoRow, standIns := [], harness := (true, "f54c903f6e7537698229e74862d4f82427dad2073bfd0e32b6096c3922768cd0"), looks := true }, kinds := [], alts := [], laidByText := true, laidKinds := [.data, .data, .data], laidTests := true, laidLooks := .later }
def FnExactDepthOfWordUptoCardSaid : Prop := Claim7.holds Tryd.pinned (.plain (OpenSpec.upto fnExactDepthOfWordSpec)) fnExactDepthOfWordUptoCard
end Rows
end Go.Proofs.YtddfijlgehpjfaaDoor
