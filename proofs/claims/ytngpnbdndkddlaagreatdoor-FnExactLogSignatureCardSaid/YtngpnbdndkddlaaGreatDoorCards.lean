/-
  DERIVED. GIVEN WITH THE SEED: THE CARDS: each row of YtngpnbdndkddlaaGreatDoorRows.lean that lists a variable, with what it lists TIED to the program's text (the seventh form; the later family's looks); each row that meets fmt, with fmt's text TOLD by the authors' own Lean function (tested against real Go, not proved from fmt's source: count such statements apart). THE CARD IS WHAT COUNTS. Prove the row's statement (the work); the ties are given (YtngpnbdndkddlaaGreatDoorTie.lean); close each card by the builder's one call (the guide's Derived/Test/ToyasCard.lean, 'card_holds'). Laid BY PROGRAM, IN A SANDBOX (cutbox-door.mjs). By AI agents, Wed Nov 11 2026. No macro, syntax, notation, axiom, sorry.
-/
import Derived.Test.YtngpnbdndkddlaaGreatDoorRows
import GoSem.ClaimSeven
namespace Go.Proofs.YtngpnbdndkddlaaGreatDoor
namespace Rows

/-- THE TIED CARD OF 'laws.FnExactSignatureOf'. -/
def fnExactSignatureOfCard : Claim7 := { stood := { row := fnExactSignatureOfRow, standIns := [], harness := (true, "549b5c4b09f8d9e5b130766dbb51b58b8ee96066c39e5d643d9cb0377b180c1d"), looks := true }, kinds := [], alts := [], laidByText := true, laidKinds := [.data, .data, .data], laidTests := true, laidLooks := .later }
def FnExactSignatureOfCardSaid : Prop := Claim7.holds Tryz.pinned (.plain (OpenSpec.ofChange fnExactSignatureOfSpec)) fnExactSignatureOfCard

/-- THE TIED CARD OF 'laws.FnExactLogSignature'. -/
def fnExactLogSignatureCard : Claim7 := { stood := { row := fnExactLogSignatureRow, standIns := [], harness := (true, "549b5c4b09f8d9e5b130766dbb51b58b8ee96066c39e5d643d9cb0377b180c1d"), looks := true }, kinds := [], alts := [], laidByText := true, laidKinds := [.data, .data, .data], laidTests := true, laidLooks := .later }
def FnExactLogSignatureCardSaid : Prop := Claim7.holds Tryz.pinned (.plain (OpenSpec.ofChange fnExactLogSignatureSpec)) fnExactLogSignatureCard

/-- THE SECOND FORM's CARD OF 'laws.FnExactSignatureOf'. -/
def fnExactSignatureOfUptoCard : Claim7 := { stood := { row := fnExactSignatureOfUptoRow, standIns := [], harness := (true, "549b5c4b09f8d9e5b130766dbb51b58b8ee96066c39e5d643d9cb0377b180c1d"), looks := true }, kinds := [], alts := [], laidByText := true, laidKinds := [.data, .data, .data], laidTests := true, laidLooks := .later }
def FnExactSignatureOfUptoCardSaid : Prop := Claim7.holds Tryz.pinned (.plain (OpenSpec.upto fnExactSignatureOfSpec)) fnExactSignatureOfUptoCard

/-- THE SECOND FORM's CARD OF 'laws.FnExactLogSignature'. -/
def fnExactLogSignatureUptoCard : Claim7 := { stood := { row := fnExactLogSignatureUptoRow, standIns := [], harness := (true, "549b5c4b09f8d9e5b130766dbb51b58b8ee96066c39e5d643d9cb0377b180c1d"), looks := true }, kinds := [], alts := [], laidByText := true, laidKinds := [.data, .data, .data], laidTests := true, laidLooks := .later }
def FnExactLogSignatureUptoCardSaid : Prop := Claim7.holds Tryz.pinned (.plain (OpenSpec.upto fnExactLogSignatureSpec)) fnExactLogSignatureUptoCard
end Rows
end Go.Proofs.YtngpnbdndkddlaaGreatDoor
