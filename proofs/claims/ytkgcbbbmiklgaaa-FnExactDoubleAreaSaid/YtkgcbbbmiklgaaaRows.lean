/-
  No cell of these rows narrows 'for every input' (looked for: loops, veiled, ifaces, maps, wideKeys, modest, calm, conditions, laid).
  DERIVED. THE GIVEN ROWS OF THIS SEAT. 10 by the template 'for every input the law returns true; each argument reads behind the call as it read before'; 0 by the template 'total and deterministic' (their statements: YtkgcbbbmiklgaaaTotals.lean).
  GIVEN WITH THE SEED: the statements are not yours to turn. If you find one false, say at which input.
  Laid BY PROGRAM, IN A SANDBOX (cutbox-rows.mjs): the forced cells as the released guide's own fill.sh prints them over the translation 55c3df6837719e8d… (all of the seat's roots in one cut). By AI agents, Wed Nov 11 2026. No macro, syntax, notation, axiom, sorry.
-/
import Derived.Test.YtkgcbbbmiklgaaaChecked
import GoSem.Claim
import GoSem.ClaimJoined
import GoSem.ClaimMapViews
import Derived.JoinedTies
import Derived.KernelRfl
namespace Go.Proofs.Ytkgcbbbmiklgaaa
/- THE CELL 'sum', in the pinned program and in every row, IS THE sha256 OF THE DUMP (.gsa) THAT YtkgcbbbmiklgaaaProg.lean LOADS. Nothing in Lean hashes anything: it is a label: what it is worth is what the hold of that sum in a sandbox is worth. -/
noncomputable def Try.pinned : Pinned := { name := "ytkgcbbbmiklgaaa", sum := "55c3df6837719e8d411f9ca2c7f4ebe899d7870697dad528a8c0f82de4d052bc", checked := Try.checked }
namespace Rows
def none {H : Type} : Left H := { results := [], args := [] }

/-- 'laws.FnExactIsMap': WHATEVER THE INPUT: true; the input reads as it did. -/
def fnExactIsMapSpec : ChangeSpec := { name := "fnExactIsMap", fn := fun _ => fun
  | [d1, d2, d3] => { results := [.lit (.bool true)], args := [d1, d2, d3] }
  | _ => none }
def fnExactIsMapRow : OpenClaim := { program := "ytkgcbbbmiklgaaa", sum := "55c3df6837719e8d411f9ca2c7f4ebe899d7870697dad528a8c0f82de4d052bc", func := "loop.example/g01260/laws.FnExactIsMap", spec := "fnExactIsMap", apart := false }
def FnExactIsMapSaid : Prop := fnExactIsMapRow.holds Try.pinned (OpenSpec.ofChange fnExactIsMapSpec)

/-- ITS FALSE NEIGHBOUR: 'it returns false'. Refute it at one input. -/
def fnExactIsMapWrong : ChangeSpec := { name := "fnExactIsMap", fn := fun _ => fun
  | [d1, d2, d3] => { results := [.lit (.bool false)], args := [d1, d2, d3] }
  | _ => none }
def FnExactIsMapWrongFalsely : Prop := fnExactIsMapRow.holds Try.pinned (OpenSpec.ofChange fnExactIsMapWrong)

/-- 'laws.FnExactTransposeMap': WHATEVER THE INPUT: true; the input reads as it did. -/
def fnExactTransposeMapSpec : ChangeSpec := { name := "fnExactTransposeMap", fn := fun _ => fun
  | [d1, d2, d3] => { results := [.lit (.bool true)], args := [d1, d2, d3] }
  | _ => none }
def fnExactTransposeMapRow : OpenClaim := { program := "ytkgcbbbmiklgaaa", sum := "55c3df6837719e8d411f9ca2c7f4ebe899d7870697dad528a8c0f82de4d052bc", func := "loop.example/g01260/laws.FnExactTransposeMap", spec := "fnExactTransposeMap", apart := false }
def FnExactTransposeMapSaid : Prop := fnExactTransposeMapRow.holds Try.pinned (OpenSpec.ofChange fnExactTransposeMapSpec)

/-- ITS FALSE NEIGHBOUR: 'it returns false'. Refute it at one input. -/
def fnExactTransposeMapWrong : ChangeSpec := { name := "fnExactTransposeMap", fn := fun _ => fun
  | [d1, d2, d3] => { results := [.lit (.bool false)], args := [d1, d2, d3] }
  | _ => none }
def FnExactTransposeMapWrongFalsely : Prop := fnExactTransposeMapRow.holds Try.pinned (OpenSpec.ofChange fnExactTransposeMapWrong)

/-- 'laws.FnExactMapPath': WHATEVER THE INPUT: true; the input reads as it did. -/
def fnExactMapPathSpec : ChangeSpec := { name := "fnExactMapPath", fn := fun _ => fun
  | [d1, d2, d3, d4] => { results := [.lit (.bool true)], args := [d1, d2, d3, d4] }
  | _ => none }
def fnExactMapPathRow : OpenClaim := { program := "ytkgcbbbmiklgaaa", sum := "55c3df6837719e8d411f9ca2c7f4ebe899d7870697dad528a8c0f82de4d052bc", func := "loop.example/g01260/laws.FnExactMapPath", spec := "fnExactMapPath", unfollowed := true, recurses := true, apart := false }
def FnExactMapPathSaid : Prop := fnExactMapPathRow.holds Try.pinned (OpenSpec.ofChange fnExactMapPathSpec)

/-- ITS FALSE NEIGHBOUR: 'it returns false'. Refute it at one input. -/
def fnExactMapPathWrong : ChangeSpec := { name := "fnExactMapPath", fn := fun _ => fun
  | [d1, d2, d3, d4] => { results := [.lit (.bool false)], args := [d1, d2, d3, d4] }
  | _ => none }
def FnExactMapPathWrongFalsely : Prop := fnExactMapPathRow.holds Try.pinned (OpenSpec.ofChange fnExactMapPathWrong)

/-- 'laws.FnExactComposeMaps': WHATEVER THE INPUT: true; the input reads as it did. -/
def fnExactComposeMapsSpec : ChangeSpec := { name := "fnExactComposeMaps", fn := fun _ => fun
  | [d1, d2, d3, d4, d5] => { results := [.lit (.bool true)], args := [d1, d2, d3, d4, d5] }
  | _ => none }
def fnExactComposeMapsRow : OpenClaim := { program := "ytkgcbbbmiklgaaa", sum := "55c3df6837719e8d411f9ca2c7f4ebe899d7870697dad528a8c0f82de4d052bc", func := "loop.example/g01260/laws.FnExactComposeMaps", spec := "fnExactComposeMaps", unfollowed := true, recurses := true, apart := false }
def FnExactComposeMapsSaid : Prop := fnExactComposeMapsRow.holds Try.pinned (OpenSpec.ofChange fnExactComposeMapsSpec)

/-- ITS FALSE NEIGHBOUR: 'it returns false'. Refute it at one input. -/
def fnExactComposeMapsWrong : ChangeSpec := { name := "fnExactComposeMaps", fn := fun _ => fun
  | [d1, d2, d3, d4, d5] => { results := [.lit (.bool false)], args := [d1, d2, d3, d4, d5] }
  | _ => none }
def FnExactComposeMapsWrongFalsely : Prop := fnExactComposeMapsRow.holds Try.pinned (OpenSpec.ofChange fnExactComposeMapsWrong)

/-- 'laws.FnExactIsPath': WHATEVER THE INPUT: true; the input reads as it did. -/
def fnExactIsPathSpec : ChangeSpec := { name := "fnExactIsPath", fn := fun _ => fun
  | [d1, d2] => { results := [.lit (.bool true)], args := [d1, d2] }
  | _ => none }
def fnExactIsPathRow : OpenClaim := { program := "ytkgcbbbmiklgaaa", sum := "55c3df6837719e8d411f9ca2c7f4ebe899d7870697dad528a8c0f82de4d052bc", func := "loop.example/g01260/laws.FnExactIsPath", spec := "fnExactIsPath", apart := false }
def FnExactIsPathSaid : Prop := fnExactIsPathRow.holds Try.pinned (OpenSpec.ofChange fnExactIsPathSpec)

/-- ITS FALSE NEIGHBOUR: 'it returns false'. Refute it at one input. -/
def fnExactIsPathWrong : ChangeSpec := { name := "fnExactIsPath", fn := fun _ => fun
  | [d1, d2] => { results := [.lit (.bool false)], args := [d1, d2] }
  | _ => none }
def FnExactIsPathWrongFalsely : Prop := fnExactIsPathRow.holds Try.pinned (OpenSpec.ofChange fnExactIsPathWrong)

/-- 'laws.FnExactEndOf': WHATEVER THE INPUT: true; the input reads as it did. -/
def fnExactEndOfSpec : ChangeSpec := { name := "fnExactEndOf", fn := fun _ => fun
  | [d1, d2] => { results := [.lit (.bool true)], args := [d1, d2] }
  | _ => none }
def fnExactEndOfRow : OpenClaim := { program := "ytkgcbbbmiklgaaa", sum := "55c3df6837719e8d411f9ca2c7f4ebe899d7870697dad528a8c0f82de4d052bc", func := "loop.example/g01260/laws.FnExactEndOf", spec := "fnExactEndOf", apart := false }
def FnExactEndOfSaid : Prop := fnExactEndOfRow.holds Try.pinned (OpenSpec.ofChange fnExactEndOfSpec)

/-- ITS FALSE NEIGHBOUR: 'it returns false'. Refute it at one input. -/
def fnExactEndOfWrong : ChangeSpec := { name := "fnExactEndOf", fn := fun _ => fun
  | [d1, d2] => { results := [.lit (.bool false)], args := [d1, d2] }
  | _ => none }
def FnExactEndOfWrongFalsely : Prop := fnExactEndOfRow.holds Try.pinned (OpenSpec.ofChange fnExactEndOfWrong)

/-- 'laws.FnExactScalePath': WHATEVER THE INPUT: true; the input reads as it did. -/
def fnExactScalePathSpec : ChangeSpec := { name := "fnExactScalePath", fn := fun _ => fun
  | [d1, d2, d3] => { results := [.lit (.bool true)], args := [d1, d2, d3] }
  | _ => none }
def fnExactScalePathRow : OpenClaim := { program := "ytkgcbbbmiklgaaa", sum := "55c3df6837719e8d411f9ca2c7f4ebe899d7870697dad528a8c0f82de4d052bc", func := "loop.example/g01260/laws.FnExactScalePath", spec := "fnExactScalePath", apart := false }
def FnExactScalePathSaid : Prop := fnExactScalePathRow.holds Try.pinned (OpenSpec.ofChange fnExactScalePathSpec)

/-- ITS FALSE NEIGHBOUR: 'it returns false'. Refute it at one input. -/
def fnExactScalePathWrong : ChangeSpec := { name := "fnExactScalePath", fn := fun _ => fun
  | [d1, d2, d3] => { results := [.lit (.bool false)], args := [d1, d2, d3] }
  | _ => none }
def FnExactScalePathWrongFalsely : Prop := fnExactScalePathRow.holds Try.pinned (OpenSpec.ofChange fnExactScalePathWrong)

/-- 'laws.FnExactJoinPaths': WHATEVER THE INPUT: true; the input reads as it did. -/
def fnExactJoinPathsSpec : ChangeSpec := { name := "fnExactJoinPaths", fn := fun _ => fun
  | [d1, d2, d3] => { results := [.lit (.bool true)], args := [d1, d2, d3] }
  | _ => none }
def fnExactJoinPathsRow : OpenClaim := { program := "ytkgcbbbmiklgaaa", sum := "55c3df6837719e8d411f9ca2c7f4ebe899d7870697dad528a8c0f82de4d052bc", func := "loop.example/g01260/laws.FnExactJoinPaths", spec := "fnExactJoinPaths", apart := false }
def FnExactJoinPathsSaid : Prop := fnExactJoinPathsRow.holds Try.pinned (OpenSpec.ofChange fnExactJoinPathsSpec)

/-- ITS FALSE NEIGHBOUR: 'it returns false'. Refute it at one input. -/
def fnExactJoinPathsWrong : ChangeSpec := { name := "fnExactJoinPaths", fn := fun _ => fun
  | [d1, d2, d3] => { results := [.lit (.bool false)], args := [d1, d2, d3] }
  | _ => none }
def FnExactJoinPathsWrongFalsely : Prop := fnExactJoinPathsRow.holds Try.pinned (OpenSpec.ofChange fnExactJoinPathsWrong)

/-- 'laws.FnExactReversePath': WHATEVER THE INPUT: true; the input reads as it did. -/
def fnExactReversePathSpec : ChangeSpec := { name := "fnExactReversePath", fn := fun _ => fun
  | [d1, d2] => { results := [.lit (.bool true)], args := [d1, d2] }
  | _ => none }
def fnExactReversePathRow : OpenClaim := { program := "ytkgcbbbmiklgaaa", sum := "55c3df6837719e8d411f9ca2c7f4ebe899d7870697dad528a8c0f82de4d052bc", func := "loop.example/g01260/laws.FnExactReversePath", spec := "fnExactReversePath", apart := false }
def FnExactReversePathSaid : Prop := fnExactReversePathRow.holds Try.pinned (OpenSpec.ofChange fnExactReversePathSpec)

/-- ITS FALSE NEIGHBOUR: 'it returns false'. Refute it at one input. -/
def fnExactReversePathWrong : ChangeSpec := { name := "fnExactReversePath", fn := fun _ => fun
  | [d1, d2] => { results := [.lit (.bool false)], args := [d1, d2] }
  | _ => none }
def FnExactReversePathWrongFalsely : Prop := fnExactReversePathRow.holds Try.pinned (OpenSpec.ofChange fnExactReversePathWrong)

/-- 'laws.FnExactDoubleArea': WHATEVER THE INPUT: true; the input reads as it did. -/
def fnExactDoubleAreaSpec : ChangeSpec := { name := "fnExactDoubleArea", fn := fun _ => fun
  | [d1, d2, d3, d4] => { results := [.lit (.bool true)], args := [d1, d2, d3, d4] }
  | _ => none }
def fnExactDoubleAreaRow : OpenClaim := { program := "ytkgcbbbmiklgaaa", sum := "55c3df6837719e8d411f9ca2c7f4ebe899d7870697dad528a8c0f82de4d052bc", func := "loop.example/g01260/laws.FnExactDoubleArea", spec := "fnExactDoubleArea", apart := false }
def FnExactDoubleAreaSaid : Prop := fnExactDoubleAreaRow.holds Try.pinned (OpenSpec.ofChange fnExactDoubleAreaSpec)

/-- ITS FALSE NEIGHBOUR: 'it returns false'. Refute it at one input. -/
def fnExactDoubleAreaWrong : ChangeSpec := { name := "fnExactDoubleArea", fn := fun _ => fun
  | [d1, d2, d3, d4] => { results := [.lit (.bool false)], args := [d1, d2, d3, d4] }
  | _ => none }
def FnExactDoubleAreaWrongFalsely : Prop := fnExactDoubleAreaRow.holds Try.pinned (OpenSpec.ofChange fnExactDoubleAreaWrong)

/- THE SECOND FORM. 'bulk': how many values and letters a reading holds, each counted each time it is reached (what is shared counts as often as it is met; a slice's spare places count too). A statement '..UptoSaid' is the law's where the arguments, and the package variables that the reading takes, are together of bulk at most 1048576: NARROWER than '..Said'. Prove '..Said' where nothing that the law and all that it calls make is longer than what came in: it says more and counts as full. Else prove '..UptoSaid'. A law counts once. -/
mutual
def uptoBulk {H : Type} : DataW H → Nat
  | .lit (.string bytes) => bytes.length + 1
  | .lit _ => 1
  | .nil => 1
  | .ptr d => uptoBulk d + 1
  | .slice elems spare => uptoBulkAll elems + uptoBulkAll spare + 1
  | .agg parts => uptoBulkAll parts + 1
  | .iface _ d => uptoBulk d + 1
  | .map entries => uptoBulkEntries entries + 1
  | .held _ => 1
def uptoBulkAll {H : Type} : List (DataW H) → Nat
  | [] => 0
  | d :: r => uptoBulk d + uptoBulkAll r
def uptoBulkEntries {H : Type} : List (Lit × DataW H) → Nat
  | [] => 0
  | x :: r => uptoBulkEntry x + uptoBulkEntries r
def uptoBulkEntry {H : Type} : Lit × DataW H → Nat
  | (.string bytes, d) => bytes.length + uptoBulk d + 1
  | (_, d) => uptoBulk d + 1
 end
def uptoSmall : (H : Type) → List (DataW H) → Bool := fun _ ds => decide (uptoBulkAll ds ≤ 1048576)
def OpenSpec.upto (s : _root_.Go.ChangeSpec) : _root_.Go.OpenSpec := { _root_.Go.OpenSpec.ofChange s with cond := some uptoSmall }

/-- 'laws.FnExactIsMap', WHERE WHAT IT READS IS OF BULK AT MOST 1048576: true; the input reads as it did. -/
def fnExactIsMapUptoRow : OpenClaim := { program := "ytkgcbbbmiklgaaa", sum := "55c3df6837719e8d411f9ca2c7f4ebe899d7870697dad528a8c0f82de4d052bc", func := "loop.example/g01260/laws.FnExactIsMap", spec := "fnExactIsMap", apart := false, narrowed := true }
def FnExactIsMapUptoSaid : Prop := fnExactIsMapUptoRow.holds Try.pinned (OpenSpec.upto fnExactIsMapSpec)

/-- 'laws.FnExactTransposeMap', WHERE WHAT IT READS IS OF BULK AT MOST 1048576: true; the input reads as it did. -/
def fnExactTransposeMapUptoRow : OpenClaim := { program := "ytkgcbbbmiklgaaa", sum := "55c3df6837719e8d411f9ca2c7f4ebe899d7870697dad528a8c0f82de4d052bc", func := "loop.example/g01260/laws.FnExactTransposeMap", spec := "fnExactTransposeMap", apart := false, narrowed := true }
def FnExactTransposeMapUptoSaid : Prop := fnExactTransposeMapUptoRow.holds Try.pinned (OpenSpec.upto fnExactTransposeMapSpec)

/-- 'laws.FnExactMapPath', WHERE WHAT IT READS IS OF BULK AT MOST 1048576: true; the input reads as it did. -/
def fnExactMapPathUptoRow : OpenClaim := { program := "ytkgcbbbmiklgaaa", sum := "55c3df6837719e8d411f9ca2c7f4ebe899d7870697dad528a8c0f82de4d052bc", func := "loop.example/g01260/laws.FnExactMapPath", spec := "fnExactMapPath", unfollowed := true, recurses := true, apart := false, narrowed := true }
def FnExactMapPathUptoSaid : Prop := fnExactMapPathUptoRow.holds Try.pinned (OpenSpec.upto fnExactMapPathSpec)

/-- 'laws.FnExactComposeMaps', WHERE WHAT IT READS IS OF BULK AT MOST 1048576: true; the input reads as it did. -/
def fnExactComposeMapsUptoRow : OpenClaim := { program := "ytkgcbbbmiklgaaa", sum := "55c3df6837719e8d411f9ca2c7f4ebe899d7870697dad528a8c0f82de4d052bc", func := "loop.example/g01260/laws.FnExactComposeMaps", spec := "fnExactComposeMaps", unfollowed := true, recurses := true, apart := false, narrowed := true }
def FnExactComposeMapsUptoSaid : Prop := fnExactComposeMapsUptoRow.holds Try.pinned (OpenSpec.upto fnExactComposeMapsSpec)

/-- 'laws.FnExactIsPath', WHERE WHAT IT READS IS OF BULK AT MOST 1048576: true; the input reads as it did. -/
def fnExactIsPathUptoRow : OpenClaim := { program := "ytkgcbbbmiklgaaa", sum := "55c3df6837719e8d411f9ca2c7f4ebe899d7870697dad528a8c0f82de4d052bc", func := "loop.example/g01260/laws.FnExactIsPath", spec := "fnExactIsPath", apart := false, narrowed := true }
def FnExactIsPathUptoSaid : Prop := fnExactIsPathUptoRow.holds Try.pinned (OpenSpec.upto fnExactIsPathSpec)

/-- 'laws.FnExactEndOf', WHERE WHAT IT READS IS OF BULK AT MOST 1048576: true; the input reads as it did. -/
def fnExactEndOfUptoRow : OpenClaim := { program := "ytkgcbbbmiklgaaa", sum := "55c3df6837719e8d411f9ca2c7f4ebe899d7870697dad528a8c0f82de4d052bc", func := "loop.example/g01260/laws.FnExactEndOf", spec := "fnExactEndOf", apart := false, narrowed := true }
def FnExactEndOfUptoSaid : Prop := fnExactEndOfUptoRow.holds Try.pinned (OpenSpec.upto fnExactEndOfSpec)

/-- 'laws.FnExactScalePath', WHERE WHAT IT READS IS OF BULK AT MOST 1048576: true; the input reads as it did. -/
def fnExactScalePathUptoRow : OpenClaim := { program := "ytkgcbbbmiklgaaa", sum := "55c3df6837719e8d411f9ca2c7f4ebe899d7870697dad528a8c0f82de4d052bc", func := "loop.example/g01260/laws.FnExactScalePath", spec := "fnExactScalePath", apart := false, narrowed := true }
def FnExactScalePathUptoSaid : Prop := fnExactScalePathUptoRow.holds Try.pinned (OpenSpec.upto fnExactScalePathSpec)

/-- 'laws.FnExactJoinPaths', WHERE WHAT IT READS IS OF BULK AT MOST 1048576: true; the input reads as it did. -/
def fnExactJoinPathsUptoRow : OpenClaim := { program := "ytkgcbbbmiklgaaa", sum := "55c3df6837719e8d411f9ca2c7f4ebe899d7870697dad528a8c0f82de4d052bc", func := "loop.example/g01260/laws.FnExactJoinPaths", spec := "fnExactJoinPaths", apart := false, narrowed := true }
def FnExactJoinPathsUptoSaid : Prop := fnExactJoinPathsUptoRow.holds Try.pinned (OpenSpec.upto fnExactJoinPathsSpec)

/-- 'laws.FnExactReversePath', WHERE WHAT IT READS IS OF BULK AT MOST 1048576: true; the input reads as it did. -/
def fnExactReversePathUptoRow : OpenClaim := { program := "ytkgcbbbmiklgaaa", sum := "55c3df6837719e8d411f9ca2c7f4ebe899d7870697dad528a8c0f82de4d052bc", func := "loop.example/g01260/laws.FnExactReversePath", spec := "fnExactReversePath", apart := false, narrowed := true }
def FnExactReversePathUptoSaid : Prop := fnExactReversePathUptoRow.holds Try.pinned (OpenSpec.upto fnExactReversePathSpec)

/-- 'laws.FnExactDoubleArea', WHERE WHAT IT READS IS OF BULK AT MOST 1048576: true; the input reads as it did. -/
def fnExactDoubleAreaUptoRow : OpenClaim := { program := "ytkgcbbbmiklgaaa", sum := "55c3df6837719e8d411f9ca2c7f4ebe899d7870697dad528a8c0f82de4d052bc", func := "loop.example/g01260/laws.FnExactDoubleArea", spec := "fnExactDoubleArea", apart := false, narrowed := true }
def FnExactDoubleAreaUptoSaid : Prop := fnExactDoubleAreaUptoRow.holds Try.pinned (OpenSpec.upto fnExactDoubleAreaSpec)

end Rows
end Go.Proofs.Ytkgcbbbmiklgaaa
