/-
  No cell of these rows narrows 'for every input' (looked for: loops, veiled, ifaces, maps, wideKeys, modest, calm, conditions, laid).
  DERIVED. THE GIVEN ROWS OF THIS SEAT. 4 by the template 'for every input the law returns true; each argument reads behind the call as it read before'; 0 by the template 'total and deterministic' (their statements: YtngpnbdndkddlaaTotals.lean).
  GIVEN WITH THE SEED: the statements are not yours to turn. If you find one false, say at which input.
  Laid BY PROGRAM, IN A SANDBOX (cutbox-rows.mjs): the forced cells as the released guide's own fill.sh prints them over the translation aecdfd63e23596ef… (all of the seat's roots in one cut). By AI agents, Wed Nov 11 2026. No macro, syntax, notation, axiom, sorry.
-/
import Derived.Test.YtngpnbdndkddlaaChecked
import GoSem.Claim
import GoSem.ClaimJoined
import GoSem.ClaimMapViews
import Derived.JoinedTies
import Derived.KernelRfl
namespace Go.Proofs.Ytngpnbdndkddlaa
/- THE CELL 'sum', in the pinned program and in every row, IS THE sha256 OF THE DUMP (.gsa) THAT YtngpnbdndkddlaaProg.lean LOADS. Nothing in Lean hashes anything: it is a label: what it is worth is what the hold of that sum in a sandbox is worth. -/
noncomputable def Try.pinned : Pinned := { name := "ytngpnbdndkddlaa", sum := "aecdfd63e23596efe5c47ca118cfbacbc477f997a63e5a07c473ef0babad19d3", checked := Try.checked }
namespace Rows
def none {H : Type} : Left H := { results := [], args := [] }

/-- 'laws.FnExactAreTables': WHATEVER THE INPUT: true; the input reads as it did. -/
def fnExactAreTablesSpec : ChangeSpec := { name := "fnExactAreTables", fn := fun _ => fun
  | [d1, d2] => { results := [.lit (.bool true)], args := [d1, d2] }
  | _ => none }
def fnExactAreTablesRow : OpenClaim := { program := "ytngpnbdndkddlaa", sum := "aecdfd63e23596efe5c47ca118cfbacbc477f997a63e5a07c473ef0babad19d3", func := "loop.example/g01260/laws.FnExactAreTables", spec := "fnExactAreTables", apart := false }
def FnExactAreTablesSaid : Prop := fnExactAreTablesRow.holds Try.pinned (OpenSpec.ofChange fnExactAreTablesSpec)

/-- ITS FALSE NEIGHBOUR: 'it returns false'. Refute it at one input. -/
def fnExactAreTablesWrong : ChangeSpec := { name := "fnExactAreTables", fn := fun _ => fun
  | [d1, d2] => { results := [.lit (.bool false)], args := [d1, d2] }
  | _ => none }
def FnExactAreTablesWrongFalsely : Prop := fnExactAreTablesRow.holds Try.pinned (OpenSpec.ofChange fnExactAreTablesWrong)

/-- 'laws.FnExactTurnTables': WHATEVER THE INPUT: true; the input reads as it did. -/
def fnExactTurnTablesSpec : ChangeSpec := { name := "fnExactTurnTables", fn := fun _ => fun
  | [] => { results := [.lit (.bool true)], args := [] }
  | _ => none }
def fnExactTurnTablesRow : OpenClaim := { program := "ytngpnbdndkddlaa", sum := "aecdfd63e23596efe5c47ca118cfbacbc477f997a63e5a07c473ef0babad19d3", func := "loop.example/g01260/laws.FnExactTurnTables", spec := "fnExactTurnTables", apart := false }
def FnExactTurnTablesSaid : Prop := fnExactTurnTablesRow.holds Try.pinned (OpenSpec.ofChange fnExactTurnTablesSpec)

/-- ITS FALSE NEIGHBOUR: 'it returns false'. Refute it at one input. -/
def fnExactTurnTablesWrong : ChangeSpec := { name := "fnExactTurnTables", fn := fun _ => fun
  | [] => { results := [.lit (.bool false)], args := [] }
  | _ => none }
def FnExactTurnTablesWrongFalsely : Prop := fnExactTurnTablesRow.holds Try.pinned (OpenSpec.ofChange fnExactTurnTablesWrong)

/-- 'laws.FnExactProductOfWord': WHATEVER THE INPUT: true; the input reads as it did. -/
def fnExactProductOfWordSpec : ChangeSpec := { name := "fnExactProductOfWord", fn := fun _ => fun
  | [d1, d2, d3] => { results := [.lit (.bool true)], args := [d1, d2, d3] }
  | _ => none }
def fnExactProductOfWordRow : OpenClaim := { program := "ytngpnbdndkddlaa", sum := "aecdfd63e23596efe5c47ca118cfbacbc477f997a63e5a07c473ef0babad19d3", func := "loop.example/g01260/laws.FnExactProductOfWord", spec := "fnExactProductOfWord", unfollowed := true, recurses := true, apart := false }
def FnExactProductOfWordSaid : Prop := fnExactProductOfWordRow.holds Try.pinned (OpenSpec.ofChange fnExactProductOfWordSpec)

/-- ITS FALSE NEIGHBOUR: 'it returns false'. Refute it at one input. -/
def fnExactProductOfWordWrong : ChangeSpec := { name := "fnExactProductOfWord", fn := fun _ => fun
  | [d1, d2, d3] => { results := [.lit (.bool false)], args := [d1, d2, d3] }
  | _ => none }
def FnExactProductOfWordWrongFalsely : Prop := fnExactProductOfWordRow.holds Try.pinned (OpenSpec.ofChange fnExactProductOfWordWrong)

/-- 'laws.FnExactTablesOfWord': WHATEVER THE INPUT: true; the input reads as it did. -/
def fnExactTablesOfWordSpec : ChangeSpec := { name := "fnExactTablesOfWord", fn := fun _ => fun
  | [d1, d2] => { results := [.lit (.bool true)], args := [d1, d2] }
  | _ => none }
def fnExactTablesOfWordRow : OpenClaim := { program := "ytngpnbdndkddlaa", sum := "aecdfd63e23596efe5c47ca118cfbacbc477f997a63e5a07c473ef0babad19d3", func := "loop.example/g01260/laws.FnExactTablesOfWord", spec := "fnExactTablesOfWord", apart := false }
def FnExactTablesOfWordSaid : Prop := fnExactTablesOfWordRow.holds Try.pinned (OpenSpec.ofChange fnExactTablesOfWordSpec)

/-- ITS FALSE NEIGHBOUR: 'it returns false'. Refute it at one input. -/
def fnExactTablesOfWordWrong : ChangeSpec := { name := "fnExactTablesOfWord", fn := fun _ => fun
  | [d1, d2] => { results := [.lit (.bool false)], args := [d1, d2] }
  | _ => none }
def FnExactTablesOfWordWrongFalsely : Prop := fnExactTablesOfWordRow.holds Try.pinned (OpenSpec.ofChange fnExactTablesOfWordWrong)

/- THE SECOND FORM. 'bulk': how many values and letters a reading holds, each counted each time it is reached (what is shared counts as often as it is met; a slice's spare places count too). A statement '..UptoSaid' is the law's where the arguments, and the package variables that the reading takes, are together of bulk at most 1048576: NARROWER than '..Said'. Prove '..Said' where nothing that the law and all that it calls make is longer than what came in: it says more and counts as full. Else prove '..UptoSaid'. A law counts once. -/
mutual
def uptoBulk {H : Type} : DataW H → Nat
  | .lit (.string bytes) => bytes.length + 1
  | .lit _ => 1
  | .nil => 1
  | .ptr d => uptoBulk d + 1
  | .slice elems spare => uptoBulkAll elems + uptoBulkAll spare + 1
  | .agg parts => uptoBulkAll parts + 1
  | .iface _ d => uptoBulk d + 1
  | .map entries => uptoBulkEntries entries + 1
  | .held _ => 1
def uptoBulkAll {H : Type} : List (DataW H) → Nat
  | [] => 0
  | d :: r => uptoBulk d + uptoBulkAll r
def uptoBulkEntries {H : Type} : List (Lit × DataW H) → Nat
  | [] => 0
  | x :: r => uptoBulkEntry x + uptoBulkEntries r
def uptoBulkEntry {H : Type} : Lit × DataW H → Nat
  | (.string bytes, d) => bytes.length + uptoBulk d + 1
  | (_, d) => uptoBulk d + 1
 end
def uptoSmall : (H : Type) → List (DataW H) → Bool := fun _ ds => decide (uptoBulkAll ds ≤ 1048576)
def OpenSpec.upto (s : _root_.Go.ChangeSpec) : _root_.Go.OpenSpec := { _root_.Go.OpenSpec.ofChange s with cond := some uptoSmall }

/-- 'laws.FnExactAreTables', WHERE WHAT IT READS IS OF BULK AT MOST 1048576: true; the input reads as it did. -/
def fnExactAreTablesUptoRow : OpenClaim := { program := "ytngpnbdndkddlaa", sum := "aecdfd63e23596efe5c47ca118cfbacbc477f997a63e5a07c473ef0babad19d3", func := "loop.example/g01260/laws.FnExactAreTables", spec := "fnExactAreTables", apart := false, narrowed := true }
def FnExactAreTablesUptoSaid : Prop := fnExactAreTablesUptoRow.holds Try.pinned (OpenSpec.upto fnExactAreTablesSpec)

/-- 'laws.FnExactTurnTables', WHERE WHAT IT READS IS OF BULK AT MOST 1048576: true; the input reads as it did. -/
def fnExactTurnTablesUptoRow : OpenClaim := { program := "ytngpnbdndkddlaa", sum := "aecdfd63e23596efe5c47ca118cfbacbc477f997a63e5a07c473ef0babad19d3", func := "loop.example/g01260/laws.FnExactTurnTables", spec := "fnExactTurnTables", apart := false, narrowed := true }
def FnExactTurnTablesUptoSaid : Prop := fnExactTurnTablesUptoRow.holds Try.pinned (OpenSpec.upto fnExactTurnTablesSpec)

/-- 'laws.FnExactProductOfWord', WHERE WHAT IT READS IS OF BULK AT MOST 1048576: true; the input reads as it did. -/
def fnExactProductOfWordUptoRow : OpenClaim := { program := "ytngpnbdndkddlaa", sum := "aecdfd63e23596efe5c47ca118cfbacbc477f997a63e5a07c473ef0babad19d3", func := "loop.example/g01260/laws.FnExactProductOfWord", spec := "fnExactProductOfWord", unfollowed := true, recurses := true, apart := false, narrowed := true }
def FnExactProductOfWordUptoSaid : Prop := fnExactProductOfWordUptoRow.holds Try.pinned (OpenSpec.upto fnExactProductOfWordSpec)

/-- 'laws.FnExactTablesOfWord', WHERE WHAT IT READS IS OF BULK AT MOST 1048576: true; the input reads as it did. -/
def fnExactTablesOfWordUptoRow : OpenClaim := { program := "ytngpnbdndkddlaa", sum := "aecdfd63e23596efe5c47ca118cfbacbc477f997a63e5a07c473ef0babad19d3", func := "loop.example/g01260/laws.FnExactTablesOfWord", spec := "fnExactTablesOfWord", apart := false, narrowed := true }
def FnExactTablesOfWordUptoSaid : Prop := fnExactTablesOfWordUptoRow.holds Try.pinned (OpenSpec.upto fnExactTablesOfWordSpec)

end Rows
end Go.Proofs.Ytngpnbdndkddlaa
