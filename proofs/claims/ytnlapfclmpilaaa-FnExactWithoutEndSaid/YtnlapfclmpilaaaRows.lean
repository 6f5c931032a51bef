/-
  No cell of these rows narrows 'for every input' (looked for: loops, veiled, ifaces, maps, wideKeys, modest, calm, conditions, laid).
  DERIVED. THE GIVEN ROWS OF THIS SEAT. 2 by the template 'for every input the law returns true; each argument reads behind the call as it read before'; 0 by the template 'total and deterministic' (their statements: YtnlapfclmpilaaaTotals.lean).
  GIVEN WITH THE SEED: the statements are not yours to turn. If you find one false, say at which input.
  Laid BY PROGRAM, IN A SANDBOX (cutbox-rows.mjs): the forced cells as the released guide's own fill.sh prints them over the translation 7e78b41a28abaf4a… (all of the seat's roots in one cut). By AI agents, Wed Nov 11 2026. No macro, syntax, notation, axiom, sorry.
-/
import Derived.Test.YtnlapfclmpilaaaChecked
import GoSem.Claim
import GoSem.ClaimJoined
import GoSem.ClaimMapViews
import Derived.JoinedTies
import Derived.KernelRfl
namespace Go.Proofs.Ytnlapfclmpilaaa
/- THE CELL 'sum', in the pinned program and in every row, IS THE sha256 OF THE DUMP (.gsa) THAT YtnlapfclmpilaaaProg.lean LOADS. Nothing in Lean hashes anything: it is a label: what it is worth is what the hold of that sum in a sandbox is worth. -/
noncomputable def Try.pinned : Pinned := { name := "ytnlapfclmpilaaa", sum := "7e78b41a28abaf4aa33435518a7d7e0ecdd85ddbea0f3fd2181dd4fc615f15cd", checked := Try.checked }
namespace Rows
def none {H : Type} : Left H := { results := [], args := [] }

/-- 'laws.FnExactWithoutBeginning': WHATEVER THE INPUT: true; the input reads as it did. -/
def fnExactWithoutBeginningSpec : ChangeSpec := { name := "fnExactWithoutBeginning", fn := fun _ => fun
  | [d1, d2] => { results := [.lit (.bool true)], args := [d1, d2] }
  | _ => none }
def fnExactWithoutBeginningRow : OpenClaim := { program := "ytnlapfclmpilaaa", sum := "7e78b41a28abaf4aa33435518a7d7e0ecdd85ddbea0f3fd2181dd4fc615f15cd", func := "loop.example/g01260/laws.FnExactWithoutBeginning", spec := "fnExactWithoutBeginning", inPlace := ["internal/bytealg.abigen_runtime_cmpstring"], unfollowed := true, recurses := true, apart := false }
def FnExactWithoutBeginningSaid : Prop := fnExactWithoutBeginningRow.holds Try.pinned (OpenSpec.ofChange fnExactWithoutBeginningSpec)

/-- ITS FALSE NEIGHBOUR: 'it returns false'. Refute it at one input. -/
def fnExactWithoutBeginningWrong : ChangeSpec := { name := "fnExactWithoutBeginning", fn := fun _ => fun
  | [d1, d2] => { results := [.lit (.bool false)], args := [d1, d2] }
  | _ => none }
def FnExactWithoutBeginningWrongFalsely : Prop := fnExactWithoutBeginningRow.holds Try.pinned (OpenSpec.ofChange fnExactWithoutBeginningWrong)

/-- 'laws.FnExactWithoutEnd': WHATEVER THE INPUT: true; the input reads as it did. -/
def fnExactWithoutEndSpec : ChangeSpec := { name := "fnExactWithoutEnd", fn := fun _ => fun
  | [d1, d2] => { results := [.lit (.bool true)], args := [d1, d2] }
  | _ => none }
def fnExactWithoutEndRow : OpenClaim := { program := "ytnlapfclmpilaaa", sum := "7e78b41a28abaf4aa33435518a7d7e0ecdd85ddbea0f3fd2181dd4fc615f15cd", func := "loop.example/g01260/laws.FnExactWithoutEnd", spec := "fnExactWithoutEnd", inPlace := ["internal/bytealg.abigen_runtime_cmpstring"], unfollowed := true, recurses := true, apart := false }
def FnExactWithoutEndSaid : Prop := fnExactWithoutEndRow.holds Try.pinned (OpenSpec.ofChange fnExactWithoutEndSpec)

/-- ITS FALSE NEIGHBOUR: 'it returns false'. Refute it at one input. -/
def fnExactWithoutEndWrong : ChangeSpec := { name := "fnExactWithoutEnd", fn := fun _ => fun
  | [d1, d2] => { results := [.lit (.bool false)], args := [d1, d2] }
  | _ => none }
def FnExactWithoutEndWrongFalsely : Prop := fnExactWithoutEndRow.holds Try.pinned (OpenSpec.ofChange fnExactWithoutEndWrong)

/- THE SECOND FORM. 'bulk': how many values and letters a reading holds, each counted each time it is reached (what is shared counts as often as it is met; a slice's spare places count too). A statement '..UptoSaid' is the law's where the arguments, and the package variables that the reading takes, are together of bulk at most 1048576: NARROWER than '..Said'. Prove '..Said' where nothing that the law and all that it calls make is longer than what came in: it says more and counts as full. Else prove '..UptoSaid'. A law counts once. -/
mutual
def uptoBulk {H : Type} : DataW H → Nat
  | .lit (.string bytes) => bytes.length + 1
  | .lit _ => 1
  | .nil => 1
  | .ptr d => uptoBulk d + 1
  | .slice elems spare => uptoBulkAll elems + uptoBulkAll spare + 1
  | .agg parts => uptoBulkAll parts + 1
  | .iface _ d => uptoBulk d + 1
  | .map entries => uptoBulkEntries entries + 1
  | .held _ => 1
def uptoBulkAll {H : Type} : List (DataW H) → Nat
  | [] => 0
  | d :: r => uptoBulk d + uptoBulkAll r
def uptoBulkEntries {H : Type} : List (Lit × DataW H) → Nat
  | [] => 0
  | x :: r => uptoBulkEntry x + uptoBulkEntries r
def uptoBulkEntry {H : Type} : Lit × DataW H → Nat
  | (.string bytes, d) => bytes.length + uptoBulk d + 1
  | (_, d) => uptoBulk d + 1
 end
def uptoSmall : (H : Type) → List (DataW H) → Bool := fun _ ds => decide (uptoBulkAll ds ≤ 1048576)
def OpenSpec.upto (s : _root_.Go.ChangeSpec) : _root_.Go.OpenSpec := { _root_.Go.OpenSpec.ofChange s with cond := some uptoSmall }

/-- 'laws.FnExactWithoutBeginning', WHERE WHAT IT READS IS OF BULK AT MOST 1048576: true; the input reads as it did. -/
def fnExactWithoutBeginningUptoRow : OpenClaim := { program := "ytnlapfclmpilaaa", sum := "7e78b41a28abaf4aa33435518a7d7e0ecdd85ddbea0f3fd2181dd4fc615f15cd", func := "loop.example/g01260/laws.FnExactWithoutBeginning", spec := "fnExactWithoutBeginning", inPlace := ["internal/bytealg.abigen_runtime_cmpstring"], unfollowed := true, recurses := true, apart := false, narrowed := true }
def FnExactWithoutBeginningUptoSaid : Prop := fnExactWithoutBeginningUptoRow.holds Try.pinned (OpenSpec.upto fnExactWithoutBeginningSpec)

/-- 'laws.FnExactWithoutEnd', WHERE WHAT IT READS IS OF BULK AT MOST 1048576: true; the input reads as it did. -/
def fnExactWithoutEndUptoRow : OpenClaim := { program := "ytnlapfclmpilaaa", sum := "7e78b41a28abaf4aa33435518a7d7e0ecdd85ddbea0f3fd2181dd4fc615f15cd", func := "loop.example/g01260/laws.FnExactWithoutEnd", spec := "fnExactWithoutEnd", inPlace := ["internal/bytealg.abigen_runtime_cmpstring"], unfollowed := true, recurses := true, apart := false, narrowed := true }
def FnExactWithoutEndUptoSaid : Prop := fnExactWithoutEndUptoRow.holds Try.pinned (OpenSpec.upto fnExactWithoutEndSpec)

end Rows
end Go.Proofs.Ytnlapfclmpilaaa
