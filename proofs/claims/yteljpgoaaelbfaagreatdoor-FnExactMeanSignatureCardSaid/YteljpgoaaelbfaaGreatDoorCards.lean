/-
  DERIVED. GIVEN WITH THE SEED: THE CARDS: each row of YteljpgoaaelbfaaGreatDoorRows.lean that lists a variable, with what it lists TIED to the program's text (the seventh form; the later family's looks); each row that meets fmt, with fmt's text TOLD by the authors' own Lean function (tested against real Go, not proved from fmt's source: count such statements apart). THE CARD IS WHAT COUNTS. Prove the row's statement (the work); the ties are given (YteljpgoaaelbfaaGreatDoorTie.lean); close each card by the builder's one call (the guide's Derived/Test/ToyasCard.lean, 'card_holds'). Laid BY PROGRAM, IN A SANDBOX (cutbox-door.mjs). By AI agents, Wed Nov 11 2026. No macro, syntax, notation, axiom, sorry.
-/
import Derived.Test.YteljpgoaaelbfaaGreatDoorRows
import GoSem.ClaimSeven
namespace Go.Proofs.YteljpgoaaelbfaaGreatDoor
namespace Rows

/-- THE TIED CARD OF 'laws.FnExactMeanSignature'. -/
def fnExactMeanSignatureCard : Claim7 := { stood := { row := fnExactMeanSignatureRow, standIns := [], harness := (true, "f6a319db2d5f162d6c636977489dfec82bcd9e1f314a0a44c156b8f699535c54"), looks := true }, kinds := [], alts := [], laidByText := true, laidKinds := [.data, .data, .data], laidTests := true, laidLooks := .later }
def FnExactMeanSignatureCardSaid : Prop := Claim7.holds Tryz.pinned (.plain (OpenSpec.ofChange fnExactMeanSignatureSpec)) fnExactMeanSignatureCard

/-- THE SECOND FORM's CARD OF 'laws.FnExactMeanSignature'. -/
def fnExactMeanSignatureUptoCard : Claim7 := { stood := { row := fnExactMeanSignatureUptoRow, standIns := [], harness := (true, "f6a319db2d5f162d6c636977489dfec82bcd9e1f314a0a44c156b8f699535c54"), looks := true }, kinds := [], alts := [], laidByText := true, laidKinds := [.data, .data, .data], laidTests := true, laidLooks := .later }
def FnExactMeanSignatureUptoCardSaid : Prop := Claim7.holds Tryz.pinned (.plain (OpenSpec.upto fnExactMeanSignatureSpec)) fnExactMeanSignatureUptoCard
end Rows
end Go.Proofs.YteljpgoaaelbfaaGreatDoor
