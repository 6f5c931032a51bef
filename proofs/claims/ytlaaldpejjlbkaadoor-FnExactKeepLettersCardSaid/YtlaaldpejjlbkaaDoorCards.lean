/-
  DERIVED. GIVEN WITH THE SEED: THE CARDS: each row of YtlaaldpejjlbkaaDoorRows.lean that lists a variable, with what it lists TIED to the program's text (the seventh form; the later family's looks); each row that meets fmt, with fmt's text TOLD by the authors' own Lean function (tested against real Go, not proved from fmt's source: count such statements apart). THE CARD IS WHAT COUNTS. Prove the row's statement (the work); the ties are given (YtlaaldpejjlbkaaDoorTie.lean); close each card by the builder's one call (the guide's Derived/Test/ToyasCard.lean, 'card_holds'). Laid BY PROGRAM, IN A SANDBOX (cutbox-door.mjs). By AI agents, Wed Nov 11 2026. No macro, syntax, notation, axiom, sorry.
-/
import Derived.Test.YtlaaldpejjlbkaaDoorRows
import GoSem.ClaimSeven
namespace Go.Proofs.YtlaaldpejjlbkaaDoor
namespace Rows

/-- THE TIED CARD OF 'laws.FnExactKeepLetters'. -/
def fnExactKeepLettersCard : Claim7 := { stood := { row := fnExactKeepLettersRow, standIns := [], harness := (true, "902e675071f3f79349701b3d6de4bbb1d28f232b8177b9350258e3474518525b"), looks := false }, kinds := [], alts := [], laidByText := true, laidKinds := [.data, .pinned], laidTests := true, laidLooks := .later }
def FnExactKeepLettersCardSaid : Prop := Claim7.holds Tryd.pinned (.plain (OpenSpec.ofChange fnExactKeepLettersSpec)) fnExactKeepLettersCard

/-- THE SECOND FORM's CARD OF 'laws.FnExactKeepLetters'. -/
def fnExactKeepLettersUptoCard : Claim7 := { stood := { row := fnExactKeepLettersUptoRow, standIns := [], harness := (true, "902e675071f3f79349701b3d6de4bbb1d28f232b8177b9350258e3474518525b"), looks := false }, kinds := [], alts := [], laidByText := true, laidKinds := [.data, .pinned], laidTests := true, laidLooks := .later }
def FnExactKeepLettersUptoCardSaid : Prop := Claim7.holds Tryd.pinned (.plain (OpenSpec.upto fnExactKeepLettersSpec)) fnExactKeepLettersUptoCard
end Rows
end Go.Proofs.YtlaaldpejjlbkaaDoor
