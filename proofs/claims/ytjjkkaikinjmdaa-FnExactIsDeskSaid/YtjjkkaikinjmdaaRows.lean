/-
  No cell of these rows narrows 'for every input' (looked for: loops, veiled, ifaces, maps, wideKeys, modest, calm, conditions, laid).
  DERIVED. THE GIVEN ROWS OF THIS SEAT. 4 by the template 'for every input the law returns true; each argument reads behind the call as it read before'; 0 by the template 'total and deterministic' (their statements: YtjjkkaikinjmdaaTotals.lean).
  GIVEN WITH THE SEED: the statements are not yours to turn. If you find one false, say at which input.
  Laid BY PROGRAM, IN A SANDBOX (cutbox-rows.mjs): the forced cells as the released guide's own fill.sh prints them over the translation 7c9fd0fe898ba965… (all of the seat's roots in one cut). By AI agents, Wed Nov 11 2026. No macro, syntax, notation, axiom, sorry.
-/
import Derived.Test.YtjjkkaikinjmdaaChecked
import GoSem.Claim
import GoSem.ClaimJoined
import GoSem.ClaimMapViews
import Derived.JoinedTies
import Derived.KernelRfl
namespace Go.Proofs.Ytjjkkaikinjmdaa
/- THE CELL 'sum', in the pinned program and in every row, IS THE sha256 OF THE DUMP (.gsa) THAT YtjjkkaikinjmdaaProg.lean LOADS. Nothing in Lean hashes anything: it is a label: what it is worth is what the hold of that sum in a sandbox is worth. -/
noncomputable def Try.pinned : Pinned := { name := "ytjjkkaikinjmdaa", sum := "7c9fd0fe898ba965bb2ce2498ebb3e66804bc4cd4f8d3a2951b1c575c8ec63d4", checked := Try.checked }
namespace Rows
def none {H : Type} : Left H := { results := [], args := [] }

/-- 'laws.FnExactInverseCoordinates': WHATEVER THE INPUT: true; the input reads as it did. -/
def fnExactInverseCoordinatesSpec : ChangeSpec := { name := "fnExactInverseCoordinates", fn := fun _ => fun
  | [d1, d2, d3] => { results := [.lit (.bool true)], args := [d1, d2, d3] }
  | _ => none }
def fnExactInverseCoordinatesRow : OpenClaim := { program := "ytjjkkaikinjmdaa", sum := "7c9fd0fe898ba965bb2ce2498ebb3e66804bc4cd4f8d3a2951b1c575c8ec63d4", func := "loop.example/g01260/laws.FnExactInverseCoordinates", spec := "fnExactInverseCoordinates", inPlace := ["internal/bytealg.abigen_runtime_cmpstring"], apart := false }
def FnExactInverseCoordinatesSaid : Prop := fnExactInverseCoordinatesRow.holds Try.pinned (OpenSpec.ofChange fnExactInverseCoordinatesSpec)

/-- ITS FALSE NEIGHBOUR: 'it returns false'. Refute it at one input. -/
def fnExactInverseCoordinatesWrong : ChangeSpec := { name := "fnExactInverseCoordinates", fn := fun _ => fun
  | [d1, d2, d3] => { results := [.lit (.bool false)], args := [d1, d2, d3] }
  | _ => none }
def FnExactInverseCoordinatesWrongFalsely : Prop := fnExactInverseCoordinatesRow.holds Try.pinned (OpenSpec.ofChange fnExactInverseCoordinatesWrong)

/-- 'laws.FnExactNewDesk': WHATEVER THE INPUT: true; the input reads as it did. -/
def fnExactNewDeskSpec : ChangeSpec := { name := "fnExactNewDesk", fn := fun _ => fun
  | [] => { results := [.lit (.bool true)], args := [] }
  | _ => none }
def fnExactNewDeskRow : OpenClaim := { program := "ytjjkkaikinjmdaa", sum := "7c9fd0fe898ba965bb2ce2498ebb3e66804bc4cd4f8d3a2951b1c575c8ec63d4", func := "loop.example/g01260/laws.FnExactNewDesk", spec := "fnExactNewDesk", apart := false }
def FnExactNewDeskSaid : Prop := fnExactNewDeskRow.holds Try.pinned (OpenSpec.ofChange fnExactNewDeskSpec)

/-- ITS FALSE NEIGHBOUR: 'it returns false'. Refute it at one input. -/
def fnExactNewDeskWrong : ChangeSpec := { name := "fnExactNewDesk", fn := fun _ => fun
  | [] => { results := [.lit (.bool false)], args := [] }
  | _ => none }
def FnExactNewDeskWrongFalsely : Prop := fnExactNewDeskRow.holds Try.pinned (OpenSpec.ofChange fnExactNewDeskWrong)

/-- 'laws.FnExactIsDesk': WHATEVER THE INPUT: true; the input reads as it did. -/
def fnExactIsDeskSpec : ChangeSpec := { name := "fnExactIsDesk", fn := fun _ => fun
  | [d] => { results := [.lit (.bool true)], args := [d] }
  | _ => none }
def fnExactIsDeskRow : OpenClaim := { program := "ytjjkkaikinjmdaa", sum := "7c9fd0fe898ba965bb2ce2498ebb3e66804bc4cd4f8d3a2951b1c575c8ec63d4", func := "loop.example/g01260/laws.FnExactIsDesk", spec := "fnExactIsDesk", inPlace := ["internal/bytealg.abigen_runtime_cmpstring"], apart := false }
def FnExactIsDeskSaid : Prop := fnExactIsDeskRow.holds Try.pinned (OpenSpec.ofChange fnExactIsDeskSpec)

/-- ITS FALSE NEIGHBOUR: 'it returns false'. Refute it at one input. -/
def fnExactIsDeskWrong : ChangeSpec := { name := "fnExactIsDesk", fn := fun _ => fun
  | [d] => { results := [.lit (.bool false)], args := [d] }
  | _ => none }
def FnExactIsDeskWrongFalsely : Prop := fnExactIsDeskRow.holds Try.pinned (OpenSpec.ofChange fnExactIsDeskWrong)

/-- 'laws.FnExactQuasiProduct': WHATEVER THE INPUT: true; the input reads as it did. -/
def fnExactQuasiProductSpec : ChangeSpec := { name := "fnExactQuasiProduct", fn := fun _ => fun
  | [d1, d2] => { results := [.lit (.bool true)], args := [d1, d2] }
  | _ => none }
def fnExactQuasiProductRow : OpenClaim := { program := "ytjjkkaikinjmdaa", sum := "7c9fd0fe898ba965bb2ce2498ebb3e66804bc4cd4f8d3a2951b1c575c8ec63d4", func := "loop.example/g01260/laws.FnExactQuasiProduct", spec := "fnExactQuasiProduct", inPlace := ["slices.overlaps[[]int64]", "slices.overlaps[int64]"], unfollowed := true, recurses := true, apart := false }
def FnExactQuasiProductSaid : Prop := fnExactQuasiProductRow.holds Try.pinned (OpenSpec.ofChange fnExactQuasiProductSpec)

/-- ITS FALSE NEIGHBOUR: 'it returns false'. Refute it at one input. -/
def fnExactQuasiProductWrong : ChangeSpec := { name := "fnExactQuasiProduct", fn := fun _ => fun
  | [d1, d2] => { results := [.lit (.bool false)], args := [d1, d2] }
  | _ => none }
def FnExactQuasiProductWrongFalsely : Prop := fnExactQuasiProductRow.holds Try.pinned (OpenSpec.ofChange fnExactQuasiProductWrong)

/- THE SECOND FORM. 'bulk': how many values and letters a reading holds, each counted each time it is reached (what is shared counts as often as it is met; a slice's spare places count too). A statement '..UptoSaid' is the law's where the arguments, and the package variables that the reading takes, are together of bulk at most 1048576: NARROWER than '..Said'. Prove '..Said' where nothing that the law and all that it calls make is longer than what came in: it says more and counts as full. Else prove '..UptoSaid'. A law counts once. -/
mutual
def uptoBulk {H : Type} : DataW H → Nat
  | .lit (.string bytes) => bytes.length + 1
  | .lit _ => 1
  | .nil => 1
  | .ptr d => uptoBulk d + 1
  | .slice elems spare => uptoBulkAll elems + uptoBulkAll spare + 1
  | .agg parts => uptoBulkAll parts + 1
  | .iface _ d => uptoBulk d + 1
  | .map entries => uptoBulkEntries entries + 1
  | .held _ => 1
def uptoBulkAll {H : Type} : List (DataW H) → Nat
  | [] => 0
  | d :: r => uptoBulk d + uptoBulkAll r
def uptoBulkEntries {H : Type} : List (Lit × DataW H) → Nat
  | [] => 0
  | x :: r => uptoBulkEntry x + uptoBulkEntries r
def uptoBulkEntry {H : Type} : Lit × DataW H → Nat
  | (.string bytes, d) => bytes.length + uptoBulk d + 1
  | (_, d) => uptoBulk d + 1
 end
def uptoSmall : (H : Type) → List (DataW H) → Bool := fun _ ds => decide (uptoBulkAll ds ≤ 1048576)
def OpenSpec.upto (s : _root_.Go.ChangeSpec) : _root_.Go.OpenSpec := { _root_.Go.OpenSpec.ofChange s with cond := some uptoSmall }

/-- 'laws.FnExactInverseCoordinates', WHERE WHAT IT READS IS OF BULK AT MOST 1048576: true; the input reads as it did. -/
def fnExactInverseCoordinatesUptoRow : OpenClaim := { program := "ytjjkkaikinjmdaa", sum := "7c9fd0fe898ba965bb2ce2498ebb3e66804bc4cd4f8d3a2951b1c575c8ec63d4", func := "loop.example/g01260/laws.FnExactInverseCoordinates", spec := "fnExactInverseCoordinates", inPlace := ["internal/bytealg.abigen_runtime_cmpstring"], apart := false, narrowed := true }
def FnExactInverseCoordinatesUptoSaid : Prop := fnExactInverseCoordinatesUptoRow.holds Try.pinned (OpenSpec.upto fnExactInverseCoordinatesSpec)

/-- 'laws.FnExactNewDesk', WHERE WHAT IT READS IS OF BULK AT MOST 1048576: true; the input reads as it did. -/
def fnExactNewDeskUptoRow : OpenClaim := { program := "ytjjkkaikinjmdaa", sum := "7c9fd0fe898ba965bb2ce2498ebb3e66804bc4cd4f8d3a2951b1c575c8ec63d4", func := "loop.example/g01260/laws.FnExactNewDesk", spec := "fnExactNewDesk", apart := false, narrowed := true }
def FnExactNewDeskUptoSaid : Prop := fnExactNewDeskUptoRow.holds Try.pinned (OpenSpec.upto fnExactNewDeskSpec)

/-- 'laws.FnExactIsDesk', WHERE WHAT IT READS IS OF BULK AT MOST 1048576: true; the input reads as it did. -/
def fnExactIsDeskUptoRow : OpenClaim := { program := "ytjjkkaikinjmdaa", sum := "7c9fd0fe898ba965bb2ce2498ebb3e66804bc4cd4f8d3a2951b1c575c8ec63d4", func := "loop.example/g01260/laws.FnExactIsDesk", spec := "fnExactIsDesk", inPlace := ["internal/bytealg.abigen_runtime_cmpstring"], apart := false, narrowed := true }
def FnExactIsDeskUptoSaid : Prop := fnExactIsDeskUptoRow.holds Try.pinned (OpenSpec.upto fnExactIsDeskSpec)

/-- 'laws.FnExactQuasiProduct', WHERE WHAT IT READS IS OF BULK AT MOST 1048576: true; the input reads as it did. -/
def fnExactQuasiProductUptoRow : OpenClaim := { program := "ytjjkkaikinjmdaa", sum := "7c9fd0fe898ba965bb2ce2498ebb3e66804bc4cd4f8d3a2951b1c575c8ec63d4", func := "loop.example/g01260/laws.FnExactQuasiProduct", spec := "fnExactQuasiProduct", inPlace := ["slices.overlaps[[]int64]", "slices.overlaps[int64]"], unfollowed := true, recurses := true, apart := false, narrowed := true }
def FnExactQuasiProductUptoSaid : Prop := fnExactQuasiProductUptoRow.holds Try.pinned (OpenSpec.upto fnExactQuasiProductSpec)

end Rows
end Go.Proofs.Ytjjkkaikinjmdaa
