/-
  DERIVED. GIVEN WITH THE SEED: THE CARDS: each row of YtklgmdcjgdjcfaaDoorRows.lean that lists a variable, with what it lists TIED to the program's text (the seventh form; the later family's looks); each row that meets fmt, with fmt's text TOLD by the authors' own Lean function (tested against real Go, not proved from fmt's source: count such statements apart). THE CARD IS WHAT COUNTS. Prove the row's statement (the work); the ties are given (YtklgmdcjgdjcfaaDoorTie.lean); close each card by the builder's one call (the guide's Derived/Test/ToyasCard.lean, 'card_holds'). Laid BY PROGRAM, IN A SANDBOX (cutbox-door.mjs). By AI agents, Wed Nov 11 2026. No macro, syntax, notation, axiom, sorry.
-/
import Derived.Test.YtklgmdcjgdjcfaaDoorRows
import GoSem.ClaimSeven
namespace Go.Proofs.YtklgmdcjgdjcfaaDoor
namespace Rows

/-- THE TIED CARD OF 'laws.FnExactDegreesOf'. -/
def fnExactDegreesOfCard : Claim7 := { stood := { row := fnExactDegreesOfRow, standIns := [], harness := (true, "4b10d52698dbb96b763db4e9206dba3a7a26fc18eecb4c993889f14d5bbfd3f0"), looks := false }, kinds := [], alts := [], laidByText := true, laidKinds := [.data, .data, .data], laidTests := true, laidLooks := .later }
def FnExactDegreesOfCardSaid : Prop := Claim7.holds Tryd.pinned (.plain (OpenSpec.ofChange fnExactDegreesOfSpec)) fnExactDegreesOfCard

/-- THE SECOND FORM's CARD OF 'laws.FnExactDegreesOf'. -/
def fnExactDegreesOfUptoCard : Claim7 := { stood := { row := fnExactDegreesOfUptoRow, standIns := [], harness := (true, "4b10d52698dbb96b763db4e9206dba3a7a26fc18eecb4c993889f14d5bbfd3f0"), looks := false }, kinds := [], alts := [], laidByText := true, laidKinds := [.data, .data, .data], laidTests := true, laidLooks := .later }
def FnExactDegreesOfUptoCardSaid : Prop := Claim7.holds Tryd.pinned (.plain (OpenSpec.upto fnExactDegreesOfSpec)) fnExactDegreesOfUptoCard
end Rows
end Go.Proofs.YtklgmdcjgdjcfaaDoor
