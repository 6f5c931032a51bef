/-
  DERIVED. GIVEN WITH THE SEED: THE CARDS: each row of YtnlapfclmpilaaaDoorRows.lean that lists a variable, with what it lists TIED to the program's text (the seventh form; the later family's looks); each row that meets fmt, with fmt's text TOLD by the authors' own Lean function (tested against real Go, not proved from fmt's source: count such statements apart). THE CARD IS WHAT COUNTS. Prove the row's statement (the work); the ties are given (YtnlapfclmpilaaaDoorTie.lean); close each card by the builder's one call (the guide's Derived/Test/ToyasCard.lean, 'card_holds'). Laid BY PROGRAM, IN A SANDBOX (cutbox-door.mjs). By AI agents, Wed Nov 11 2026. No macro, syntax, notation, axiom, sorry.
-/
import Derived.Test.YtnlapfclmpilaaaDoorRows
import GoSem.ClaimSeven
namespace Go.Proofs.YtnlapfclmpilaaaDoor
namespace Rows

/-- THE TIED CARD OF 'laws.FnExactKeepLetters'. -/
def fnExactKeepLettersCard : Claim7 := { stood := { row := fnExactKeepLettersRow, standIns := [], harness := (true, "11f1ef665f3cab9683888d344460337b409da13b6c36ee0794f2387808630db0"), looks := false }, kinds := [], alts := [], laidByText := true, laidKinds := [.data, .pinned], laidTests := true, laidLooks := .later }
def FnExactKeepLettersCardSaid : Prop := Claim7.holds Tryd.pinned (.plain (OpenSpec.ofChange fnExactKeepLettersSpec)) fnExactKeepLettersCard

/-- THE TIED CARD OF 'laws.FnExactDegreesOf'. -/
def fnExactDegreesOfCard : Claim7 := { stood := { row := fnExactDegreesOfRow, standIns := [], harness := (true, "11f1ef665f3cab9683888d344460337b409da13b6c36ee0794f2387808630db0"), looks := false }, kinds := [], alts := [], laidByText := true, laidKinds := [.data, .data, .data], laidTests := true, laidLooks := .later }
def FnExactDegreesOfCardSaid : Prop := Claim7.holds Tryd.pinned (.plain (OpenSpec.ofChange fnExactDegreesOfSpec)) fnExactDegreesOfCard

/-- THE SECOND FORM's CARD OF 'laws.FnExactKeepLetters'. -/
def fnExactKeepLettersUptoCard : Claim7 := { stood := { row := fnExactKeepLettersUptoRow, standIns := [], harness := (true, "11f1ef665f3cab9683888d344460337b409da13b6c36ee0794f2387808630db0"), looks := false }, kinds := [], alts := [], laidByText := true, laidKinds := [.data, .pinned], laidTests := true, laidLooks := .later }
def FnExactKeepLettersUptoCardSaid : Prop := Claim7.holds Tryd.pinned (.plain (OpenSpec.upto fnExactKeepLettersSpec)) fnExactKeepLettersUptoCard

/-- THE SECOND FORM's CARD OF 'laws.FnExactDegreesOf'. -/
def fnExactDegreesOfUptoCard : Claim7 := { stood := { row := fnExactDegreesOfUptoRow, standIns := [], harness := (true, "11f1ef665f3cab9683888d344460337b409da13b6c36ee0794f2387808630db0"), looks := false }, kinds := [], alts := [], laidByText := true, laidKinds := [.data, .data, .data], laidTests := true, laidLooks := .later }
def FnExactDegreesOfUptoCardSaid : Prop := Claim7.holds Tryd.pinned (.plain (OpenSpec.upto fnExactDegreesOfSpec)) fnExactDegreesOfUptoCard
end Rows
end Go.Proofs.YtnlapfclmpilaaaDoor
