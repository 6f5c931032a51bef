/-
  DERIVED. GIVEN WITH THE SEED: THE CARDS: each row of YtngpnbdndkddlaaDoorRows.lean that lists a variable, with what it lists TIED to the program's text (the seventh form; the later family's looks); each row that meets fmt, with fmt's text TOLD by the authors' own Lean function (tested against real Go, not proved from fmt's source: count such statements apart). THE CARD IS WHAT COUNTS. Prove the row's statement (the work); the ties are given (YtngpnbdndkddlaaDoorTie.lean); close each card by the builder's one call (the guide's Derived/Test/ToyasCard.lean, 'card_holds'). Laid BY PROGRAM, IN A SANDBOX (cutbox-door.mjs). By AI agents, Wed Nov 11 2026. No macro, syntax, notation, axiom, sorry.
-/
import Derived.Test.YtngpnbdndkddlaaDoorRows
import GoSem.ClaimSeven
namespace Go.Proofs.YtngpnbdndkddlaaDoor
namespace Rows

/-- THE TIED CARD OF 'laws.FnExactStepSignature'. -/
def fnExactStepSignatureCard : Claim7 := { stood := { row := fnExactStepSignatureRow, standIns := [], harness := (true, "b01a1c75974270a4ddacff03abc2ebb1ae0cffbe88d5b6041ea362733e4e9878"), looks := true }, kinds := [], alts := [], laidByText := true, laidKinds := [.data, .data, .data], laidTests := true, laidLooks := .later }
def FnExactStepSignatureCardSaid : Prop := Claim7.holds Tryd.pinned (.plain (OpenSpec.ofChange fnExactStepSignatureSpec)) fnExactStepSignatureCard

/-- THE TIED CARD OF 'laws.FnExactDoTablesCommute'. -/
def fnExactDoTablesCommuteCard : Claim7 := { stood := { row := fnExactDoTablesCommuteRow, standIns := [], harness := (true, "b01a1c75974270a4ddacff03abc2ebb1ae0cffbe88d5b6041ea362733e4e9878"), looks := true }, kinds := [], alts := [], laidByText := true, laidKinds := [.data, .data, .data], laidTests := true, laidLooks := .later }
def FnExactDoTablesCommuteCardSaid : Prop := Claim7.holds Tryd.pinned (.plain (OpenSpec.ofChange fnExactDoTablesCommuteSpec)) fnExactDoTablesCommuteCard

/-- THE TIED CARD OF 'laws.FnExactTableCommutator'. -/
def fnExactTableCommutatorCard : Claim7 := { stood := { row := fnExactTableCommutatorRow, standIns := [], harness := (true, "b01a1c75974270a4ddacff03abc2ebb1ae0cffbe88d5b6041ea362733e4e9878"), looks := true }, kinds := [], alts := [], laidByText := true, laidKinds := [.data, .data, .data], laidTests := true, laidLooks := .later }
def FnExactTableCommutatorCardSaid : Prop := Claim7.holds Tryd.pinned (.plain (OpenSpec.ofChange fnExactTableCommutatorSpec)) fnExactTableCommutatorCard

/-- THE TIED CARD OF 'laws.FnExactVanishAt'. -/
def fnExactVanishAtCard : Claim7 := { stood := { row := fnExactVanishAtRow, standIns := [], harness := (true, "b01a1c75974270a4ddacff03abc2ebb1ae0cffbe88d5b6041ea362733e4e9878"), looks := true }, kinds := [], alts := [], laidByText := true, laidKinds := [.data, .data, .data], laidTests := true, laidLooks := .later }
def FnExactVanishAtCardSaid : Prop := Claim7.holds Tryd.pinned (.plain (OpenSpec.ofChange fnExactVanishAtSpec)) fnExactVanishAtCard

/-- THE SECOND FORM's CARD OF 'laws.FnExactStepSignature'. -/
def fnExactStepSignatureUptoCard : Claim7 := { stood := { row := fnExactStepSignatureUptoRow, standIns := [], harness := (true, "b01a1c75974270a4ddacff03abc2ebb1ae0cffbe88d5b6041ea362733e4e9878"), looks := true }, kinds := [], alts := [], laidByText := true, laidKinds := [.data, .data, .data], laidTests := true, laidLooks := .later }
def FnExactStepSignatureUptoCardSaid : Prop := Claim7.holds Tryd.pinned (.plain (OpenSpec.upto fnExactStepSignatureSpec)) fnExactStepSignatureUptoCard

/-- THE SECOND FORM's CARD OF 'laws.FnExactDoTablesCommute'. -/
def fnExactDoTablesCommuteUptoCard : Claim7 := { stood := { row := fnExactDoTablesCommuteUptoRow, standIns := [], harness := (true, "b01a1c75974270a4ddacff03abc2ebb1ae0cffbe88d5b6041ea362733e4e9878"), looks := true }, kinds := [], alts := [], laidByText := true, laidKinds := [.data, .data, .data], laidTests := true, laidLooks := .later }
def FnExactDoTablesCommuteUptoCardSaid : Prop := Claim7.holds Tryd.pinned (.plain (OpenSpec.upto fnExactDoTablesCommuteSpec)) fnExactDoTablesCommuteUptoCard

/-- THE SECOND FORM's CARD OF 'laws.FnExactTableCommutator'. -/
def fnExactTableCommutatorUptoCard : Claim7 := { stood := { row := fnExactTableCommutatorUptoRow, standIns := [], harness := (true, "b01a1c75974270a4ddacff03abc2ebb1ae0cffbe88d5b6041ea362733e4e9878"), looks := true }, kinds := [], alts := [], laidByText := true, laidKinds := [.data, .data, .data], laidTests := true, laidLooks := .later }
def FnExactTableCommutatorUptoCardSaid : Prop := Claim7.holds Tryd.pinned (.plain (OpenSpec.upto fnExactTableCommutatorSpec)) fnExactTableCommutatorUptoCard

/-- THE SECOND FORM's CARD OF 'laws.FnExactVanishAt'. -/
def fnExactVanishAtUptoCard : Claim7 := { stood := { row := fnExactVanishAtUptoRow, standIns := [], harness := (true, "b01a1c75974270a4ddacff03abc2ebb1ae0cffbe88d5b6041ea362733e4e9878"), looks := true }, kinds := [], alts := [], laidByText := true, laidKinds := [.data, .data, .data], laidTests := true, laidLooks := .later }
def FnExactVanishAtUptoCardSaid : Prop := Claim7.holds Tryd.pinned (.plain (OpenSpec.upto fnExactVanishAtSpec)) fnExactVanishAtUptoCard
end Rows
end Go.Proofs.YtngpnbdndkddlaaDoor
