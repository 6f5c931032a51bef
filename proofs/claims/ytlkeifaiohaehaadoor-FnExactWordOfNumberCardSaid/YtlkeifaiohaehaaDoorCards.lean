/-
  DERIVED. GIVEN WITH THE SEED: THE CARDS: each row of YtlkeifaiohaehaaDoorRows.lean that lists a variable, with what it lists TIED to the program's text (the seventh form; the later family's looks); each row that meets fmt, with fmt's text TOLD by the authors' own Lean function (tested against real Go, not proved from fmt's source: count such statements apart). THE CARD IS WHAT COUNTS. Prove the row's statement (the work); the ties are given (YtlkeifaiohaehaaDoorTie.lean); close each card by the builder's one call (the guide's Derived/Test/ToyasCard.lean, 'card_holds'). Laid BY PROGRAM, IN A SANDBOX (cutbox-door.mjs). By AI agents, Wed Nov 11 2026. No macro, syntax, notation, axiom, sorry.
-/
import Derived.Test.YtlkeifaiohaehaaDoorRows
import GoSem.ClaimSeven
namespace Go.Proofs.YtlkeifaiohaehaaDoor
namespace Rows

/-- THE TIED CARD OF 'laws.FnExactWordOfNumber'. -/
def fnExactWordOfNumberCard : Claim7 := { stood := { row := fnExactWordOfNumberRow, standIns := [], harness := (true, "d49e5eec1cb5180b1a204a4537773ca38870a62f00eb993148832b3607f0b354"), looks := false }, kinds := [], alts := [], laidByText := true, laidKinds := [.data, .data, .data], laidTests := true, laidLooks := .later }
def FnExactWordOfNumberCardSaid : Prop := Claim7.holds Tryd.pinned (.plain (OpenSpec.ofChange fnExactWordOfNumberSpec)) fnExactWordOfNumberCard

/-- THE SECOND FORM's CARD OF 'laws.FnExactWordOfNumber'. -/
def fnExactWordOfNumberUptoCard : Claim7 := { stood := { row := fnExactWordOfNumberUptoRow, standIns := [], harness := (true, "d49e5eec1cb5180b1a204a4537773ca38870a62f00eb993148832b3607f0b354"), looks := false }, kinds := [], alts := [], laidByText := true, laidKinds := [.data, .data, .data], laidTests := true, laidLooks := .later }
def FnExactWordOfNumberUptoCardSaid : Prop := Claim7.holds Tryd.pinned (.plain (OpenSpec.upto fnExactWordOfNumberSpec)) fnExactWordOfNumberUptoCard
end Rows
end Go.Proofs.YtlkeifaiohaehaaDoor
