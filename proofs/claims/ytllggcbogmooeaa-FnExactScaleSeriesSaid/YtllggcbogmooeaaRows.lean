/-
  No cell of these rows narrows 'for every input' (looked for: loops, veiled, ifaces, maps, wideKeys, modest, calm, conditions, laid).
  DERIVED. THE GIVEN ROWS OF THIS SEAT. 8 by the template 'for every input the law returns true; each argument reads behind the call as it read before'; 0 by the template 'total and deterministic' (their statements: YtllggcbogmooeaaTotals.lean).
  GIVEN WITH THE SEED: the statements are not yours to turn. If you find one false, say at which input.
  Laid BY PROGRAM, IN A SANDBOX (cutbox-rows.mjs): the forced cells as the released guide's own fill.sh prints them over the translation 4b0c3886c9aa380f… (all of the seat's roots in one cut). By AI agents, Wed Nov 11 2026. No macro, syntax, notation, axiom, sorry.
-/
import Derived.Test.YtllggcbogmooeaaChecked
import GoSem.Claim
import GoSem.ClaimJoined
import GoSem.ClaimMapViews
import Derived.JoinedTies
import Derived.KernelRfl
namespace Go.Proofs.Ytllggcbogmooeaa
/- THE CELL 'sum', in the pinned program and in every row, IS THE sha256 OF THE DUMP (.gsa) THAT YtllggcbogmooeaaProg.lean LOADS. Nothing in Lean hashes anything: it is a label: what it is worth is what the hold of that sum in a sandbox is worth. -/
noncomputable def Try.pinned : Pinned := { name := "ytllggcbogmooeaa", sum := "4b0c3886c9aa380f5eb7dad6cf0b41159d3cabfaf38c96d757a9e9a2da611888", checked := Try.checked }
namespace Rows
def none {H : Type} : Left H := { results := [], args := [] }

/-- 'laws.FnExactIsPath': WHATEVER THE INPUT: true; the input reads as it did. -/
def fnExactIsPathSpec : ChangeSpec := { name := "fnExactIsPath", fn := fun _ => fun
  | [d1, d2] => { results := [.lit (.bool true)], args := [d1, d2] }
  | _ => none }
def fnExactIsPathRow : OpenClaim := { program := "ytllggcbogmooeaa", sum := "4b0c3886c9aa380f5eb7dad6cf0b41159d3cabfaf38c96d757a9e9a2da611888", func := "loop.example/g01260/laws.FnExactIsPath", spec := "fnExactIsPath", plainKeys := false, apart := false }
def FnExactIsPathSaid : Prop := fnExactIsPathRow.holds Try.pinned (OpenSpec.ofChange fnExactIsPathSpec)

/-- ITS FALSE NEIGHBOUR: 'it returns false'. Refute it at one input. -/
def fnExactIsPathWrong : ChangeSpec := { name := "fnExactIsPath", fn := fun _ => fun
  | [d1, d2] => { results := [.lit (.bool false)], args := [d1, d2] }
  | _ => none }
def FnExactIsPathWrongFalsely : Prop := fnExactIsPathRow.holds Try.pinned (OpenSpec.ofChange fnExactIsPathWrong)

/-- 'laws.FnExactEndOf': WHATEVER THE INPUT: true; the input reads as it did. -/
def fnExactEndOfSpec : ChangeSpec := { name := "fnExactEndOf", fn := fun _ => fun
  | [d1, d2] => { results := [.lit (.bool true)], args := [d1, d2] }
  | _ => none }
def fnExactEndOfRow : OpenClaim := { program := "ytllggcbogmooeaa", sum := "4b0c3886c9aa380f5eb7dad6cf0b41159d3cabfaf38c96d757a9e9a2da611888", func := "loop.example/g01260/laws.FnExactEndOf", spec := "fnExactEndOf", plainKeys := false, apart := false }
def FnExactEndOfSaid : Prop := fnExactEndOfRow.holds Try.pinned (OpenSpec.ofChange fnExactEndOfSpec)

/-- ITS FALSE NEIGHBOUR: 'it returns false'. Refute it at one input. -/
def fnExactEndOfWrong : ChangeSpec := { name := "fnExactEndOf", fn := fun _ => fun
  | [d1, d2] => { results := [.lit (.bool false)], args := [d1, d2] }
  | _ => none }
def FnExactEndOfWrongFalsely : Prop := fnExactEndOfRow.holds Try.pinned (OpenSpec.ofChange fnExactEndOfWrong)

/-- 'laws.FnExactDoubleArea': WHATEVER THE INPUT: true; the input reads as it did. -/
def fnExactDoubleAreaSpec : ChangeSpec := { name := "fnExactDoubleArea", fn := fun _ => fun
  | [d1, d2, d3, d4] => { results := [.lit (.bool true)], args := [d1, d2, d3, d4] }
  | _ => none }
def fnExactDoubleAreaRow : OpenClaim := { program := "ytllggcbogmooeaa", sum := "4b0c3886c9aa380f5eb7dad6cf0b41159d3cabfaf38c96d757a9e9a2da611888", func := "loop.example/g01260/laws.FnExactDoubleArea", spec := "fnExactDoubleArea", plainKeys := false, apart := false }
def FnExactDoubleAreaSaid : Prop := fnExactDoubleAreaRow.holds Try.pinned (OpenSpec.ofChange fnExactDoubleAreaSpec)

/-- ITS FALSE NEIGHBOUR: 'it returns false'. Refute it at one input. -/
def fnExactDoubleAreaWrong : ChangeSpec := { name := "fnExactDoubleArea", fn := fun _ => fun
  | [d1, d2, d3, d4] => { results := [.lit (.bool false)], args := [d1, d2, d3, d4] }
  | _ => none }
def FnExactDoubleAreaWrongFalsely : Prop := fnExactDoubleAreaRow.holds Try.pinned (OpenSpec.ofChange fnExactDoubleAreaWrong)

/-- 'laws.FnExactReversePath': WHATEVER THE INPUT: true; the input reads as it did. -/
def fnExactReversePathSpec : ChangeSpec := { name := "fnExactReversePath", fn := fun _ => fun
  | [d1, d2] => { results := [.lit (.bool true)], args := [d1, d2] }
  | _ => none }
def fnExactReversePathRow : OpenClaim := { program := "ytllggcbogmooeaa", sum := "4b0c3886c9aa380f5eb7dad6cf0b41159d3cabfaf38c96d757a9e9a2da611888", func := "loop.example/g01260/laws.FnExactReversePath", spec := "fnExactReversePath", plainKeys := false, apart := false }
def FnExactReversePathSaid : Prop := fnExactReversePathRow.holds Try.pinned (OpenSpec.ofChange fnExactReversePathSpec)

/-- ITS FALSE NEIGHBOUR: 'it returns false'. Refute it at one input. -/
def fnExactReversePathWrong : ChangeSpec := { name := "fnExactReversePath", fn := fun _ => fun
  | [d1, d2] => { results := [.lit (.bool false)], args := [d1, d2] }
  | _ => none }
def FnExactReversePathWrongFalsely : Prop := fnExactReversePathRow.holds Try.pinned (OpenSpec.ofChange fnExactReversePathWrong)

/-- 'laws.FnExactJoinPaths': WHATEVER THE INPUT: true; the input reads as it did. -/
def fnExactJoinPathsSpec : ChangeSpec := { name := "fnExactJoinPaths", fn := fun _ => fun
  | [d1, d2, d3] => { results := [.lit (.bool true)], args := [d1, d2, d3] }
  | _ => none }
def fnExactJoinPathsRow : OpenClaim := { program := "ytllggcbogmooeaa", sum := "4b0c3886c9aa380f5eb7dad6cf0b41159d3cabfaf38c96d757a9e9a2da611888", func := "loop.example/g01260/laws.FnExactJoinPaths", spec := "fnExactJoinPaths", plainKeys := false, apart := false }
def FnExactJoinPathsSaid : Prop := fnExactJoinPathsRow.holds Try.pinned (OpenSpec.ofChange fnExactJoinPathsSpec)

/-- ITS FALSE NEIGHBOUR: 'it returns false'. Refute it at one input. -/
def fnExactJoinPathsWrong : ChangeSpec := { name := "fnExactJoinPaths", fn := fun _ => fun
  | [d1, d2, d3] => { results := [.lit (.bool false)], args := [d1, d2, d3] }
  | _ => none }
def FnExactJoinPathsWrongFalsely : Prop := fnExactJoinPathsRow.holds Try.pinned (OpenSpec.ofChange fnExactJoinPathsWrong)

/-- 'laws.FnExactScalePath': WHATEVER THE INPUT: true; the input reads as it did. -/
def fnExactScalePathSpec : ChangeSpec := { name := "fnExactScalePath", fn := fun _ => fun
  | [d1, d2, d3] => { results := [.lit (.bool true)], args := [d1, d2, d3] }
  | _ => none }
def fnExactScalePathRow : OpenClaim := { program := "ytllggcbogmooeaa", sum := "4b0c3886c9aa380f5eb7dad6cf0b41159d3cabfaf38c96d757a9e9a2da611888", func := "loop.example/g01260/laws.FnExactScalePath", spec := "fnExactScalePath", plainKeys := false, apart := false }
def FnExactScalePathSaid : Prop := fnExactScalePathRow.holds Try.pinned (OpenSpec.ofChange fnExactScalePathSpec)

/-- ITS FALSE NEIGHBOUR: 'it returns false'. Refute it at one input. -/
def fnExactScalePathWrong : ChangeSpec := { name := "fnExactScalePath", fn := fun _ => fun
  | [d1, d2, d3] => { results := [.lit (.bool false)], args := [d1, d2, d3] }
  | _ => none }
def FnExactScalePathWrongFalsely : Prop := fnExactScalePathRow.holds Try.pinned (OpenSpec.ofChange fnExactScalePathWrong)

/-- 'laws.FnExactReducePath': WHATEVER THE INPUT: true; the input reads as it did. -/
def fnExactReducePathSpec : ChangeSpec := { name := "fnExactReducePath", fn := fun _ => fun
  | [d1, d2] => { results := [.lit (.bool true)], args := [d1, d2] }
  | _ => none }
def fnExactReducePathRow : OpenClaim := { program := "ytllggcbogmooeaa", sum := "4b0c3886c9aa380f5eb7dad6cf0b41159d3cabfaf38c96d757a9e9a2da611888", func := "loop.example/g01260/laws.FnExactReducePath", spec := "fnExactReducePath", plainKeys := false, apart := false }
def FnExactReducePathSaid : Prop := fnExactReducePathRow.holds Try.pinned (OpenSpec.ofChange fnExactReducePathSpec)

/-- ITS FALSE NEIGHBOUR: 'it returns false'. Refute it at one input. -/
def fnExactReducePathWrong : ChangeSpec := { name := "fnExactReducePath", fn := fun _ => fun
  | [d1, d2] => { results := [.lit (.bool false)], args := [d1, d2] }
  | _ => none }
def FnExactReducePathWrongFalsely : Prop := fnExactReducePathRow.holds Try.pinned (OpenSpec.ofChange fnExactReducePathWrong)

/-- 'laws.FnExactScaleSeries': WHATEVER THE INPUT: true; the input reads as it did. -/
def fnExactScaleSeriesSpec : ChangeSpec := { name := "fnExactScaleSeries", fn := fun _ => fun
  | [d1, d2] => { results := [.lit (.bool true)], args := [d1, d2] }
  | _ => none }
def fnExactScaleSeriesRow : OpenClaim := { program := "ytllggcbogmooeaa", sum := "4b0c3886c9aa380f5eb7dad6cf0b41159d3cabfaf38c96d757a9e9a2da611888", func := "loop.example/g01260/laws.FnExactScaleSeries", spec := "fnExactScaleSeries", inPlace := ["internal/bytealg.abigen_runtime_cmpstring"], plainKeys := false, apart := false }
def FnExactScaleSeriesSaid : Prop := fnExactScaleSeriesRow.holds Try.pinned (OpenSpec.ofChange fnExactScaleSeriesSpec)

/-- ITS FALSE NEIGHBOUR: 'it returns false'. Refute it at one input. -/
def fnExactScaleSeriesWrong : ChangeSpec := { name := "fnExactScaleSeries", fn := fun _ => fun
  | [d1, d2] => { results := [.lit (.bool false)], args := [d1, d2] }
  | _ => none }
def FnExactScaleSeriesWrongFalsely : Prop := fnExactScaleSeriesRow.holds Try.pinned (OpenSpec.ofChange fnExactScaleSeriesWrong)

/- THE SECOND FORM. 'bulk': how many values and letters a reading holds, each counted each time it is reached (what is shared counts as often as it is met; a slice's spare places count too). A statement '..UptoSaid' is the law's where the arguments, and the package variables that the reading takes, are together of bulk at most 1048576: NARROWER than '..Said'. Prove '..Said' where nothing that the law and all that it calls make is longer than what came in: it says more and counts as full. Else prove '..UptoSaid'. A law counts once. -/
mutual
def uptoBulk {H : Type} : DataW H → Nat
  | .lit (.string bytes) => bytes.length + 1
  | .lit _ => 1
  | .nil => 1
  | .ptr d => uptoBulk d + 1
  | .slice elems spare => uptoBulkAll elems + uptoBulkAll spare + 1
  | .agg parts => uptoBulkAll parts + 1
  | .iface _ d => uptoBulk d + 1
  | .map entries => uptoBulkEntries entries + 1
  | .held _ => 1
def uptoBulkAll {H : Type} : List (DataW H) → Nat
  | [] => 0
  | d :: r => uptoBulk d + uptoBulkAll r
def uptoBulkEntries {H : Type} : List (Lit × DataW H) → Nat
  | [] => 0
  | x :: r => uptoBulkEntry x + uptoBulkEntries r
def uptoBulkEntry {H : Type} : Lit × DataW H → Nat
  | (.string bytes, d) => bytes.length + uptoBulk d + 1
  | (_, d) => uptoBulk d + 1
 end
def uptoSmall : (H : Type) → List (DataW H) → Bool := fun _ ds => decide (uptoBulkAll ds ≤ 1048576)
def OpenSpec.upto (s : _root_.Go.ChangeSpec) : _root_.Go.OpenSpec := { _root_.Go.OpenSpec.ofChange s with cond := some uptoSmall }

/-- 'laws.FnExactIsPath', WHERE WHAT IT READS IS OF BULK AT MOST 1048576: true; the input reads as it did. -/
def fnExactIsPathUptoRow : OpenClaim := { program := "ytllggcbogmooeaa", sum := "4b0c3886c9aa380f5eb7dad6cf0b41159d3cabfaf38c96d757a9e9a2da611888", func := "loop.example/g01260/laws.FnExactIsPath", spec := "fnExactIsPath", plainKeys := false, apart := false, narrowed := true }
def FnExactIsPathUptoSaid : Prop := fnExactIsPathUptoRow.holds Try.pinned (OpenSpec.upto fnExactIsPathSpec)

/-- 'laws.FnExactEndOf', WHERE WHAT IT READS IS OF BULK AT MOST 1048576: true; the input reads as it did. -/
def fnExactEndOfUptoRow : OpenClaim := { program := "ytllggcbogmooeaa", sum := "4b0c3886c9aa380f5eb7dad6cf0b41159d3cabfaf38c96d757a9e9a2da611888", func := "loop.example/g01260/laws.FnExactEndOf", spec := "fnExactEndOf", plainKeys := false, apart := false, narrowed := true }
def FnExactEndOfUptoSaid : Prop := fnExactEndOfUptoRow.holds Try.pinned (OpenSpec.upto fnExactEndOfSpec)

/-- 'laws.FnExactDoubleArea', WHERE WHAT IT READS IS OF BULK AT MOST 1048576: true; the input reads as it did. -/
def fnExactDoubleAreaUptoRow : OpenClaim := { program := "ytllggcbogmooeaa", sum := "4b0c3886c9aa380f5eb7dad6cf0b41159d3cabfaf38c96d757a9e9a2da611888", func := "loop.example/g01260/laws.FnExactDoubleArea", spec := "fnExactDoubleArea", plainKeys := false, apart := false, narrowed := true }
def FnExactDoubleAreaUptoSaid : Prop := fnExactDoubleAreaUptoRow.holds Try.pinned (OpenSpec.upto fnExactDoubleAreaSpec)

/-- 'laws.FnExactReversePath', WHERE WHAT IT READS IS OF BULK AT MOST 1048576: true; the input reads as it did. -/
def fnExactReversePathUptoRow : OpenClaim := { program := "ytllggcbogmooeaa", sum := "4b0c3886c9aa380f5eb7dad6cf0b41159d3cabfaf38c96d757a9e9a2da611888", func := "loop.example/g01260/laws.FnExactReversePath", spec := "fnExactReversePath", plainKeys := false, apart := false, narrowed := true }
def FnExactReversePathUptoSaid : Prop := fnExactReversePathUptoRow.holds Try.pinned (OpenSpec.upto fnExactReversePathSpec)

/-- 'laws.FnExactJoinPaths', WHERE WHAT IT READS IS OF BULK AT MOST 1048576: true; the input reads as it did. -/
def fnExactJoinPathsUptoRow : OpenClaim := { program := "ytllggcbogmooeaa", sum := "4b0c3886c9aa380f5eb7dad6cf0b41159d3cabfaf38c96d757a9e9a2da611888", func := "loop.example/g01260/laws.FnExactJoinPaths", spec := "fnExactJoinPaths", plainKeys := false, apart := false, narrowed := true }
def FnExactJoinPathsUptoSaid : Prop := fnExactJoinPathsUptoRow.holds Try.pinned (OpenSpec.upto fnExactJoinPathsSpec)

/-- 'laws.FnExactScalePath', WHERE WHAT IT READS IS OF BULK AT MOST 1048576: true; the input reads as it did. -/
def fnExactScalePathUptoRow : OpenClaim := { program := "ytllggcbogmooeaa", sum := "4b0c3886c9aa380f5eb7dad6cf0b41159d3cabfaf38c96d757a9e9a2da611888", func := "loop.example/g01260/laws.FnExactScalePath", spec := "fnExactScalePath", plainKeys := false, apart := false, narrowed := true }
def FnExactScalePathUptoSaid : Prop := fnExactScalePathUptoRow.holds Try.pinned (OpenSpec.upto fnExactScalePathSpec)

/-- 'laws.FnExactReducePath', WHERE WHAT IT READS IS OF BULK AT MOST 1048576: true; the input reads as it did. -/
def fnExactReducePathUptoRow : OpenClaim := { program := "ytllggcbogmooeaa", sum := "4b0c3886c9aa380f5eb7dad6cf0b41159d3cabfaf38c96d757a9e9a2da611888", func := "loop.example/g01260/laws.FnExactReducePath", spec := "fnExactReducePath", plainKeys := false, apart := false, narrowed := true }
def FnExactReducePathUptoSaid : Prop := fnExactReducePathUptoRow.holds Try.pinned (OpenSpec.upto fnExactReducePathSpec)

/-- 'laws.FnExactScaleSeries', WHERE WHAT IT READS IS OF BULK AT MOST 1048576: true; the input reads as it did. -/
def fnExactScaleSeriesUptoRow : OpenClaim := { program := "ytllggcbogmooeaa", sum := "4b0c3886c9aa380f5eb7dad6cf0b41159d3cabfaf38c96d757a9e9a2da611888", func := "loop.example/g01260/laws.FnExactScaleSeries", spec := "fnExactScaleSeries", inPlace := ["internal/bytealg.abigen_runtime_cmpstring"], plainKeys := false, apart := false, narrowed := true }
def FnExactScaleSeriesUptoSaid : Prop := fnExactScaleSeriesUptoRow.holds Try.pinned (OpenSpec.upto fnExactScaleSeriesSpec)

end Rows
end Go.Proofs.Ytllggcbogmooeaa
