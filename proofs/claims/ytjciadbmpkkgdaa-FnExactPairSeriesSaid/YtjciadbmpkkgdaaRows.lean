/-
  No cell of these rows narrows 'for every input' (looked for: loops, veiled, ifaces, maps, wideKeys, modest, calm, conditions, laid).
  DERIVED. THE GIVEN ROWS OF THIS SEAT. 9 by the template 'for every input the law returns true; each argument reads behind the call as it read before'; 0 by the template 'total and deterministic' (their statements: YtjciadbmpkkgdaaTotals.lean).
  GIVEN WITH THE SEED: the statements are not yours to turn. If you find one false, say at which input.
  Laid BY PROGRAM, IN A SANDBOX (cutbox-rows.mjs): the forced cells as the released guide's own fill.sh prints them over the translation 5d40933bec01e15c… (all of the seat's roots in one cut). By AI agents, Wed Nov 11 2026. No macro, syntax, notation, axiom, sorry.
-/
import Derived.Test.YtjciadbmpkkgdaaChecked
import GoSem.Claim
import GoSem.ClaimJoined
import GoSem.ClaimMapViews
import Derived.JoinedTies
import Derived.KernelRfl
namespace Go.Proofs.Ytjciadbmpkkgdaa
/- THE CELL 'sum', in the pinned program and in every row, IS THE sha256 OF THE DUMP (.gsa) THAT YtjciadbmpkkgdaaProg.lean LOADS. Nothing in Lean hashes anything: it is a label: what it is worth is what the hold of that sum in a sandbox is worth. -/
noncomputable def Try.pinned : Pinned := { name := "ytjciadbmpkkgdaa", sum := "5d40933bec01e15c8b10f5fcbaf5ddf14e62dd4aa4a0d8b7b693842e6f1a3483", checked := Try.checked }
namespace Rows
def none {H : Type} : Left H := { results := [], args := [] }

/-- 'laws.FnExactIsSeries': WHATEVER THE INPUT: true; the input reads as it did. -/
def fnExactIsSeriesSpec : ChangeSpec := { name := "fnExactIsSeries", fn := fun _ => fun
  | [d] => { results := [.lit (.bool true)], args := [d] }
  | _ => none }
def fnExactIsSeriesRow : OpenClaim := { program := "ytjciadbmpkkgdaa", sum := "5d40933bec01e15c8b10f5fcbaf5ddf14e62dd4aa4a0d8b7b693842e6f1a3483", func := "loop.example/g01260/laws.FnExactIsSeries", spec := "fnExactIsSeries", inPlace := ["internal/bytealg.abigen_runtime_cmpstring"], apart := false }
def FnExactIsSeriesSaid : Prop := fnExactIsSeriesRow.holds Try.pinned (OpenSpec.ofChange fnExactIsSeriesSpec)

/-- ITS FALSE NEIGHBOUR: 'it returns false'. Refute it at one input. -/
def fnExactIsSeriesWrong : ChangeSpec := { name := "fnExactIsSeries", fn := fun _ => fun
  | [d] => { results := [.lit (.bool false)], args := [d] }
  | _ => none }
def FnExactIsSeriesWrongFalsely : Prop := fnExactIsSeriesRow.holds Try.pinned (OpenSpec.ofChange fnExactIsSeriesWrong)

/-- 'laws.FnExactCoefficientOf': WHATEVER THE INPUT: true; the input reads as it did. -/
def fnExactCoefficientOfSpec : ChangeSpec := { name := "fnExactCoefficientOf", fn := fun _ => fun
  | [d1, d2] => { results := [.lit (.bool true)], args := [d1, d2] }
  | _ => none }
def fnExactCoefficientOfRow : OpenClaim := { program := "ytjciadbmpkkgdaa", sum := "5d40933bec01e15c8b10f5fcbaf5ddf14e62dd4aa4a0d8b7b693842e6f1a3483", func := "loop.example/g01260/laws.FnExactCoefficientOf", spec := "fnExactCoefficientOf", inPlace := ["internal/bytealg.abigen_runtime_cmpstring"], unfollowed := true, recurses := true, apart := false }
def FnExactCoefficientOfSaid : Prop := fnExactCoefficientOfRow.holds Try.pinned (OpenSpec.ofChange fnExactCoefficientOfSpec)

/-- ITS FALSE NEIGHBOUR: 'it returns false'. Refute it at one input. -/
def fnExactCoefficientOfWrong : ChangeSpec := { name := "fnExactCoefficientOf", fn := fun _ => fun
  | [d1, d2] => { results := [.lit (.bool false)], args := [d1, d2] }
  | _ => none }
def FnExactCoefficientOfWrongFalsely : Prop := fnExactCoefficientOfRow.holds Try.pinned (OpenSpec.ofChange fnExactCoefficientOfWrong)

/-- 'laws.FnExactPartOf': WHATEVER THE INPUT: true; the input reads as it did. -/
def fnExactPartOfSpec : ChangeSpec := { name := "fnExactPartOf", fn := fun _ => fun
  | [d1, d2] => { results := [.lit (.bool true)], args := [d1, d2] }
  | _ => none }
def fnExactPartOfRow : OpenClaim := { program := "ytjciadbmpkkgdaa", sum := "5d40933bec01e15c8b10f5fcbaf5ddf14e62dd4aa4a0d8b7b693842e6f1a3483", func := "loop.example/g01260/laws.FnExactPartOf", spec := "fnExactPartOf", inPlace := ["internal/bytealg.abigen_runtime_cmpstring"], unfollowed := true, recurses := true, apart := false }
def FnExactPartOfSaid : Prop := fnExactPartOfRow.holds Try.pinned (OpenSpec.ofChange fnExactPartOfSpec)

/-- ITS FALSE NEIGHBOUR: 'it returns false'. Refute it at one input. -/
def fnExactPartOfWrong : ChangeSpec := { name := "fnExactPartOf", fn := fun _ => fun
  | [d1, d2] => { results := [.lit (.bool false)], args := [d1, d2] }
  | _ => none }
def FnExactPartOfWrongFalsely : Prop := fnExactPartOfRow.holds Try.pinned (OpenSpec.ofChange fnExactPartOfWrong)

/-- 'laws.FnExactTruncateSeries': WHATEVER THE INPUT: true; the input reads as it did. -/
def fnExactTruncateSeriesSpec : ChangeSpec := { name := "fnExactTruncateSeries", fn := fun _ => fun
  | [d1, d2] => { results := [.lit (.bool true)], args := [d1, d2] }
  | _ => none }
def fnExactTruncateSeriesRow : OpenClaim := { program := "ytjciadbmpkkgdaa", sum := "5d40933bec01e15c8b10f5fcbaf5ddf14e62dd4aa4a0d8b7b693842e6f1a3483", func := "loop.example/g01260/laws.FnExactTruncateSeries", spec := "fnExactTruncateSeries", inPlace := ["internal/bytealg.abigen_runtime_cmpstring"], unfollowed := true, recurses := true, apart := false }
def FnExactTruncateSeriesSaid : Prop := fnExactTruncateSeriesRow.holds Try.pinned (OpenSpec.ofChange fnExactTruncateSeriesSpec)

/-- ITS FALSE NEIGHBOUR: 'it returns false'. Refute it at one input. -/
def fnExactTruncateSeriesWrong : ChangeSpec := { name := "fnExactTruncateSeries", fn := fun _ => fun
  | [d1, d2] => { results := [.lit (.bool false)], args := [d1, d2] }
  | _ => none }
def FnExactTruncateSeriesWrongFalsely : Prop := fnExactTruncateSeriesRow.holds Try.pinned (OpenSpec.ofChange fnExactTruncateSeriesWrong)

/-- 'laws.FnExactConstantOf': WHATEVER THE INPUT: true; the input reads as it did. -/
def fnExactConstantOfSpec : ChangeSpec := { name := "fnExactConstantOf", fn := fun _ => fun
  | [d] => { results := [.lit (.bool true)], args := [d] }
  | _ => none }
def fnExactConstantOfRow : OpenClaim := { program := "ytjciadbmpkkgdaa", sum := "5d40933bec01e15c8b10f5fcbaf5ddf14e62dd4aa4a0d8b7b693842e6f1a3483", func := "loop.example/g01260/laws.FnExactConstantOf", spec := "fnExactConstantOf", inPlace := ["internal/bytealg.abigen_runtime_cmpstring"], unfollowed := true, recurses := true, apart := false }
def FnExactConstantOfSaid : Prop := fnExactConstantOfRow.holds Try.pinned (OpenSpec.ofChange fnExactConstantOfSpec)

/-- ITS FALSE NEIGHBOUR: 'it returns false'. Refute it at one input. -/
def fnExactConstantOfWrong : ChangeSpec := { name := "fnExactConstantOf", fn := fun _ => fun
  | [d] => { results := [.lit (.bool false)], args := [d] }
  | _ => none }
def FnExactConstantOfWrongFalsely : Prop := fnExactConstantOfRow.holds Try.pinned (OpenSpec.ofChange fnExactConstantOfWrong)

/-- 'laws.FnExactPairSeries': WHATEVER THE INPUT: true; the input reads as it did. -/
def fnExactPairSeriesSpec : ChangeSpec := { name := "fnExactPairSeries", fn := fun _ => fun
  | [d1, d2] => { results := [.lit (.bool true)], args := [d1, d2] }
  | _ => none }
def fnExactPairSeriesRow : OpenClaim := { program := "ytjciadbmpkkgdaa", sum := "5d40933bec01e15c8b10f5fcbaf5ddf14e62dd4aa4a0d8b7b693842e6f1a3483", func := "loop.example/g01260/laws.FnExactPairSeries", spec := "fnExactPairSeries", inPlace := ["internal/bytealg.abigen_runtime_cmpstring"], apart := false }
def FnExactPairSeriesSaid : Prop := fnExactPairSeriesRow.holds Try.pinned (OpenSpec.ofChange fnExactPairSeriesSpec)

/-- ITS FALSE NEIGHBOUR: 'it returns false'. Refute it at one input. -/
def fnExactPairSeriesWrong : ChangeSpec := { name := "fnExactPairSeries", fn := fun _ => fun
  | [d1, d2] => { results := [.lit (.bool false)], args := [d1, d2] }
  | _ => none }
def FnExactPairSeriesWrongFalsely : Prop := fnExactPairSeriesRow.holds Try.pinned (OpenSpec.ofChange fnExactPairSeriesWrong)

/-- 'laws.FnExactWithoutBeginning': WHATEVER THE INPUT: true; the input reads as it did. -/
def fnExactWithoutBeginningSpec : ChangeSpec := { name := "fnExactWithoutBeginning", fn := fun _ => fun
  | [d1, d2] => { results := [.lit (.bool true)], args := [d1, d2] }
  | _ => none }
def fnExactWithoutBeginningRow : OpenClaim := { program := "ytjciadbmpkkgdaa", sum := "5d40933bec01e15c8b10f5fcbaf5ddf14e62dd4aa4a0d8b7b693842e6f1a3483", func := "loop.example/g01260/laws.FnExactWithoutBeginning", spec := "fnExactWithoutBeginning", inPlace := ["internal/bytealg.abigen_runtime_cmpstring"], unfollowed := true, recurses := true, apart := false }
def FnExactWithoutBeginningSaid : Prop := fnExactWithoutBeginningRow.holds Try.pinned (OpenSpec.ofChange fnExactWithoutBeginningSpec)

/-- ITS FALSE NEIGHBOUR: 'it returns false'. Refute it at one input. -/
def fnExactWithoutBeginningWrong : ChangeSpec := { name := "fnExactWithoutBeginning", fn := fun _ => fun
  | [d1, d2] => { results := [.lit (.bool false)], args := [d1, d2] }
  | _ => none }
def FnExactWithoutBeginningWrongFalsely : Prop := fnExactWithoutBeginningRow.holds Try.pinned (OpenSpec.ofChange fnExactWithoutBeginningWrong)

/-- 'laws.FnExactWithoutEnd': WHATEVER THE INPUT: true; the input reads as it did. -/
def fnExactWithoutEndSpec : ChangeSpec := { name := "fnExactWithoutEnd", fn := fun _ => fun
  | [d1, d2] => { results := [.lit (.bool true)], args := [d1, d2] }
  | _ => none }
def fnExactWithoutEndRow : OpenClaim := { program := "ytjciadbmpkkgdaa", sum := "5d40933bec01e15c8b10f5fcbaf5ddf14e62dd4aa4a0d8b7b693842e6f1a3483", func := "loop.example/g01260/laws.FnExactWithoutEnd", spec := "fnExactWithoutEnd", inPlace := ["internal/bytealg.abigen_runtime_cmpstring"], unfollowed := true, recurses := true, apart := false }
def FnExactWithoutEndSaid : Prop := fnExactWithoutEndRow.holds Try.pinned (OpenSpec.ofChange fnExactWithoutEndSpec)

/-- ITS FALSE NEIGHBOUR: 'it returns false'. Refute it at one input. -/
def fnExactWithoutEndWrong : ChangeSpec := { name := "fnExactWithoutEnd", fn := fun _ => fun
  | [d1, d2] => { results := [.lit (.bool false)], args := [d1, d2] }
  | _ => none }
def FnExactWithoutEndWrongFalsely : Prop := fnExactWithoutEndRow.holds Try.pinned (OpenSpec.ofChange fnExactWithoutEndWrong)

/-- 'laws.FnExactBracketText': WHATEVER THE INPUT: true; the input reads as it did. -/
def fnExactBracketTextSpec : ChangeSpec := { name := "fnExactBracketText", fn := fun _ => fun
  | [d1, d2] => { results := [.lit (.bool true)], args := [d1, d2] }
  | _ => none }
def fnExactBracketTextRow : OpenClaim := { program := "ytjciadbmpkkgdaa", sum := "5d40933bec01e15c8b10f5fcbaf5ddf14e62dd4aa4a0d8b7b693842e6f1a3483", func := "loop.example/g01260/laws.FnExactBracketText", spec := "fnExactBracketText", unfollowed := true, recurses := true, apart := false }
def FnExactBracketTextSaid : Prop := fnExactBracketTextRow.holds Try.pinned (OpenSpec.ofChange fnExactBracketTextSpec)

/-- ITS FALSE NEIGHBOUR: 'it returns false'. Refute it at one input. -/
def fnExactBracketTextWrong : ChangeSpec := { name := "fnExactBracketText", fn := fun _ => fun
  | [d1, d2] => { results := [.lit (.bool false)], args := [d1, d2] }
  | _ => none }
def FnExactBracketTextWrongFalsely : Prop := fnExactBracketTextRow.holds Try.pinned (OpenSpec.ofChange fnExactBracketTextWrong)

/- THE SECOND FORM. 'bulk': how many values and letters a reading holds, each counted each time it is reached (what is shared counts as often as it is met; a slice's spare places count too). A statement '..UptoSaid' is the law's where the arguments, and the package variables that the reading takes, are together of bulk at most 1048576: NARROWER than '..Said'. Prove '..Said' where nothing that the law and all that it calls make is longer than what came in: it says more and counts as full. Else prove '..UptoSaid'. A law counts once. -/
mutual
def uptoBulk {H : Type} : DataW H → Nat
  | .lit (.string bytes) => bytes.length + 1
  | .lit _ => 1
  | .nil => 1
  | .ptr d => uptoBulk d + 1
  | .slice elems spare => uptoBulkAll elems + uptoBulkAll spare + 1
  | .agg parts => uptoBulkAll parts + 1
  | .iface _ d => uptoBulk d + 1
  | .map entries => uptoBulkEntries entries + 1
  | .held _ => 1
def uptoBulkAll {H : Type} : List (DataW H) → Nat
  | [] => 0
  | d :: r => uptoBulk d + uptoBulkAll r
def uptoBulkEntries {H : Type} : List (Lit × DataW H) → Nat
  | [] => 0
  | x :: r => uptoBulkEntry x + uptoBulkEntries r
def uptoBulkEntry {H : Type} : Lit × DataW H → Nat
  | (.string bytes, d) => bytes.length + uptoBulk d + 1
  | (_, d) => uptoBulk d + 1
 end
def uptoSmall : (H : Type) → List (DataW H) → Bool := fun _ ds => decide (uptoBulkAll ds ≤ 1048576)
def OpenSpec.upto (s : _root_.Go.ChangeSpec) : _root_.Go.OpenSpec := { _root_.Go.OpenSpec.ofChange s with cond := some uptoSmall }

/-- 'laws.FnExactIsSeries', WHERE WHAT IT READS IS OF BULK AT MOST 1048576: true; the input reads as it did. -/
def fnExactIsSeriesUptoRow : OpenClaim := { program := "ytjciadbmpkkgdaa", sum := "5d40933bec01e15c8b10f5fcbaf5ddf14e62dd4aa4a0d8b7b693842e6f1a3483", func := "loop.example/g01260/laws.FnExactIsSeries", spec := "fnExactIsSeries", inPlace := ["internal/bytealg.abigen_runtime_cmpstring"], apart := false, narrowed := true }
def FnExactIsSeriesUptoSaid : Prop := fnExactIsSeriesUptoRow.holds Try.pinned (OpenSpec.upto fnExactIsSeriesSpec)

/-- 'laws.FnExactCoefficientOf', WHERE WHAT IT READS IS OF BULK AT MOST 1048576: true; the input reads as it did. -/
def fnExactCoefficientOfUptoRow : OpenClaim := { program := "ytjciadbmpkkgdaa", sum := "5d40933bec01e15c8b10f5fcbaf5ddf14e62dd4aa4a0d8b7b693842e6f1a3483", func := "loop.example/g01260/laws.FnExactCoefficientOf", spec := "fnExactCoefficientOf", inPlace := ["internal/bytealg.abigen_runtime_cmpstring"], unfollowed := true, recurses := true, apart := false, narrowed := true }
def FnExactCoefficientOfUptoSaid : Prop := fnExactCoefficientOfUptoRow.holds Try.pinned (OpenSpec.upto fnExactCoefficientOfSpec)

/-- 'laws.FnExactPartOf', WHERE WHAT IT READS IS OF BULK AT MOST 1048576: true; the input reads as it did. -/
def fnExactPartOfUptoRow : OpenClaim := { program := "ytjciadbmpkkgdaa", sum := "5d40933bec01e15c8b10f5fcbaf5ddf14e62dd4aa4a0d8b7b693842e6f1a3483", func := "loop.example/g01260/laws.FnExactPartOf", spec := "fnExactPartOf", inPlace := ["internal/bytealg.abigen_runtime_cmpstring"], unfollowed := true, recurses := true, apart := false, narrowed := true }
def FnExactPartOfUptoSaid : Prop := fnExactPartOfUptoRow.holds Try.pinned (OpenSpec.upto fnExactPartOfSpec)

/-- 'laws.FnExactTruncateSeries', WHERE WHAT IT READS IS OF BULK AT MOST 1048576: true; the input reads as it did. -/
def fnExactTruncateSeriesUptoRow : OpenClaim := { program := "ytjciadbmpkkgdaa", sum := "5d40933bec01e15c8b10f5fcbaf5ddf14e62dd4aa4a0d8b7b693842e6f1a3483", func := "loop.example/g01260/laws.FnExactTruncateSeries", spec := "fnExactTruncateSeries", inPlace := ["internal/bytealg.abigen_runtime_cmpstring"], unfollowed := true, recurses := true, apart := false, narrowed := true }
def FnExactTruncateSeriesUptoSaid : Prop := fnExactTruncateSeriesUptoRow.holds Try.pinned (OpenSpec.upto fnExactTruncateSeriesSpec)

/-- 'laws.FnExactConstantOf', WHERE WHAT IT READS IS OF BULK AT MOST 1048576: true; the input reads as it did. -/
def fnExactConstantOfUptoRow : OpenClaim := { program := "ytjciadbmpkkgdaa", sum := "5d40933bec01e15c8b10f5fcbaf5ddf14e62dd4aa4a0d8b7b693842e6f1a3483", func := "loop.example/g01260/laws.FnExactConstantOf", spec := "fnExactConstantOf", inPlace := ["internal/bytealg.abigen_runtime_cmpstring"], unfollowed := true, recurses := true, apart := false, narrowed := true }
def FnExactConstantOfUptoSaid : Prop := fnExactConstantOfUptoRow.holds Try.pinned (OpenSpec.upto fnExactConstantOfSpec)

/-- 'laws.FnExactPairSeries', WHERE WHAT IT READS IS OF BULK AT MOST 1048576: true; the input reads as it did. -/
def fnExactPairSeriesUptoRow : OpenClaim := { program := "ytjciadbmpkkgdaa", sum := "5d40933bec01e15c8b10f5fcbaf5ddf14e62dd4aa4a0d8b7b693842e6f1a3483", func := "loop.example/g01260/laws.FnExactPairSeries", spec := "fnExactPairSeries", inPlace := ["internal/bytealg.abigen_runtime_cmpstring"], apart := false, narrowed := true }
def FnExactPairSeriesUptoSaid : Prop := fnExactPairSeriesUptoRow.holds Try.pinned (OpenSpec.upto fnExactPairSeriesSpec)

/-- 'laws.FnExactWithoutBeginning', WHERE WHAT IT READS IS OF BULK AT MOST 1048576: true; the input reads as it did. -/
def fnExactWithoutBeginningUptoRow : OpenClaim := { program := "ytjciadbmpkkgdaa", sum := "5d40933bec01e15c8b10f5fcbaf5ddf14e62dd4aa4a0d8b7b693842e6f1a3483", func := "loop.example/g01260/laws.FnExactWithoutBeginning", spec := "fnExactWithoutBeginning", inPlace := ["internal/bytealg.abigen_runtime_cmpstring"], unfollowed := true, recurses := true, apart := false, narrowed := true }
def FnExactWithoutBeginningUptoSaid : Prop := fnExactWithoutBeginningUptoRow.holds Try.pinned (OpenSpec.upto fnExactWithoutBeginningSpec)

/-- 'laws.FnExactWithoutEnd', WHERE WHAT IT READS IS OF BULK AT MOST 1048576: true; the input reads as it did. -/
def fnExactWithoutEndUptoRow : OpenClaim := { program := "ytjciadbmpkkgdaa", sum := "5d40933bec01e15c8b10f5fcbaf5ddf14e62dd4aa4a0d8b7b693842e6f1a3483", func := "loop.example/g01260/laws.FnExactWithoutEnd", spec := "fnExactWithoutEnd", inPlace := ["internal/bytealg.abigen_runtime_cmpstring"], unfollowed := true, recurses := true, apart := false, narrowed := true }
def FnExactWithoutEndUptoSaid : Prop := fnExactWithoutEndUptoRow.holds Try.pinned (OpenSpec.upto fnExactWithoutEndSpec)

/-- 'laws.FnExactBracketText', WHERE WHAT IT READS IS OF BULK AT MOST 1048576: true; the input reads as it did. -/
def fnExactBracketTextUptoRow : OpenClaim := { program := "ytjciadbmpkkgdaa", sum := "5d40933bec01e15c8b10f5fcbaf5ddf14e62dd4aa4a0d8b7b693842e6f1a3483", func := "loop.example/g01260/laws.FnExactBracketText", spec := "fnExactBracketText", unfollowed := true, recurses := true, apart := false, narrowed := true }
def FnExactBracketTextUptoSaid : Prop := fnExactBracketTextUptoRow.holds Try.pinned (OpenSpec.upto fnExactBracketTextSpec)

end Rows
end Go.Proofs.Ytjciadbmpkkgdaa
