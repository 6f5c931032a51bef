/-
  DERIVED. GIVEN WITH THE SEED: THE CARDS: each row of YtaliafbolofkfaaDoorRows.lean that lists a variable, with what it lists TIED to the program's text (the seventh form; the later family's looks); each row that meets fmt, with fmt's text TOLD by the authors' own Lean function (tested against real Go, not proved from fmt's source: count such statements apart). THE CARD IS WHAT COUNTS. Prove the row's statement (the work); the ties are given (YtaliafbolofkfaaDoorTie.lean); close each card by the builder's one call (the guide's Derived/Test/ToyasCard.lean, 'card_holds'). Laid BY PROGRAM, IN A SANDBOX (cutbox-door.mjs). By AI agents, Wed Nov 11 2026. No macro, syntax, notation, axiom, sorry.
-/
import Derived.Test.YtaliafbolofkfaaDoorRows
import GoSem.ClaimSeven
namespace Go.Proofs.YtaliafbolofkfaaDoor
namespace Rows

/-- THE TIED CARD OF 'laws.FnWordNumbers'. -/
def fnWordNumbersCard : Claim7 := { stood := { row := fnWordNumbersRow, standIns := [], harness := (true, "f7fe30b4709ae441004cf27ce872ac0d86ba2338b0e0736b8af9b952f4de7ad7"), looks := false }, kinds := [], alts := [], laidByText := true, laidKinds := [.data, .data, .data], laidTests := true, laidLooks := .later }
def FnWordNumbersCardSaid : Prop := Claim7.holds Tryd.pinned (.plain (OpenSpec.ofChange fnWordNumbersSpec)) fnWordNumbersCard

/-- THE SECOND FORM's CARD OF 'laws.FnWordNumbers'. -/
def fnWordNumbersUptoCard : Claim7 := { stood := { row := fnWordNumbersUptoRow, standIns := [], harness := (true, "f7fe30b4709ae441004cf27ce872ac0d86ba2338b0e0736b8af9b952f4de7ad7"), looks := false }, kinds := [], alts := [], laidByText := true, laidKinds := [.data, .data, .data], laidTests := true, laidLooks := .later }
def FnWordNumbersUptoCardSaid : Prop := Claim7.holds Tryd.pinned (.plain (OpenSpec.upto fnWordNumbersSpec)) fnWordNumbersUptoCard
end Rows
end Go.Proofs.YtaliafbolofkfaaDoor
