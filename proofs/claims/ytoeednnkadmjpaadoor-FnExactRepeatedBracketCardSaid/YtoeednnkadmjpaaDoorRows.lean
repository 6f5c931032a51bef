/-
  NARROWER THAN 'FOR EVERY INPUT', by the rows' own cells (each row's printed sentence says how): FnExactUnitSeries: laid · FnExactMultiplySeries: laid · FnExactPowerSeries: laid · FnExactCommutatorOf: laid · FnExactReversalOf: laid · FnExactAntipodeOf: laid · FnExactAreSignaturesEqual: laid · FnExactRepeatedBracket: laid.
  DERIVED. THE GIVEN ROWS OF THIS SEAT. 8 by the template 'for every input the law returns true; each argument reads behind the call as it read before'; 0 by the template 'total and deterministic' (their statements: YtoeednnkadmjpaaDoorTotals.lean).
  GIVEN WITH THE SEED: the statements are not yours to turn. If you find one false, say at which input.
  Laid BY PROGRAM, IN A SANDBOX (cutbox-rows.mjs): the forced cells as the released guide's own fill.sh prints them over the translation fec644dde3aa9d7a… (all of the seat's roots in one cut). By AI agents, Wed Nov 11 2026. No macro, syntax, notation, axiom, sorry.
-/
import Derived.Test.YtoeednnkadmjpaaDoorChecked
import GoSem.Claim
import GoSem.ClaimJoined
import GoSem.ClaimMapViews
import Derived.JoinedTies
import Derived.KernelRfl
namespace Go.Proofs.YtoeednnkadmjpaaDoor
/- THE CELL 'sum', in the pinned program and in every row, IS THE sha256 OF THE DUMP (.gsa) THAT YtoeednnkadmjpaaDoorProg.lean LOADS. Nothing in Lean hashes anything: it is a label: what it is worth is what the hold of that sum in a sandbox is worth. -/
noncomputable def Tryd.pinned : Pinned := { name := "ytoeednnkadmjpaadoor", sum := "fec644dde3aa9d7ad007f1c7b1e43927725771e8e7cc65dacf5d3ff241b10da9", checked := Tryd.checked }
namespace Rows
def none {H : Type} : Left H := { results := [], args := [] }

/- WHAT THE LISTED PACKAGE-LEVEL VARIABLES READ AS WHEN THE CALL BEGINS. Each datum BY PROGRAM (the guide's laid-datum.mjs) off the statement by which the dump's own 'gosem.cut.vars' lays the variable. In a bare row this is a premise. The card (YtoeednnkadmjpaaDoorCards.lean) ties it to the program's text. -/
def laid_math_bits_deBruijn32tab {H : Type} : DataW H := .agg [.lit (.int .u8 0), .lit (.int .u8 1), .lit (.int .u8 28), .lit (.int .u8 2), .lit (.int .u8 29), .lit (.int .u8 14), .lit (.int .u8 24), .lit (.int .u8 3), .lit (.int .u8 30), .lit (.int .u8 22), .lit (.int .u8 20), .lit (.int .u8 15), .lit (.int .u8 25), .lit (.int .u8 17), .lit (.int .u8 4), .lit (.int .u8 8), .lit (.int .u8 31), .lit (.int .u8 27), .lit (.int .u8 13), .lit (.int .u8 23), .lit (.int .u8 21), .lit (.int .u8 19), .lit (.int .u8 16), .lit (.int .u8 7), .lit (.int .u8 26), .lit (.int .u8 12), .lit (.int .u8 18), .lit (.int .u8 6), .lit (.int .u8 11), .lit (.int .u8 5), .lit (.int .u8 10), .lit (.int .u8 9)]
def laid_math_bits_deBruijn64tab {H : Type} : DataW H := .agg [.lit (.int .u8 0), .lit (.int .u8 1), .lit (.int .u8 56), .lit (.int .u8 2), .lit (.int .u8 57), .lit (.int .u8 49), .lit (.int .u8 28), .lit (.int .u8 3), .lit (.int .u8 61), .lit (.int .u8 58), .lit (.int .u8 42), .lit (.int .u8 50), .lit (.int .u8 38), .lit (.int .u8 29), .lit (.int .u8 17), .lit (.int .u8 4), .lit (.int .u8 62), .lit (.int .u8 47), .lit (.int .u8 59), .lit (.int .u8 36), .lit (.int .u8 45), .lit (.int .u8 43), .lit (.int .u8 51), .lit (.int .u8 22), .lit (.int .u8 53), .lit (.int .u8 39), .lit (.int .u8 33), .lit (.int .u8 30), .lit (.int .u8 24), .lit (.int .u8 18), .lit (.int .u8 12), .lit (.int .u8 5), .lit (.int .u8 63), .lit (.int .u8 55), .lit (.int .u8 48), .lit (.int .u8 27), .lit (.int .u8 60), .lit (.int .u8 41), .lit (.int .u8 37), .lit (.int .u8 16), .lit (.int .u8 46), .lit (.int .u8 35), .lit (.int .u8 44), .lit (.int .u8 21), .lit (.int .u8 52), .lit (.int .u8 32), .lit (.int .u8 23), .lit (.int .u8 11), .lit (.int .u8 54), .lit (.int .u8 26), .lit (.int .u8 40), .lit (.int .u8 15), .lit (.int .u8 34), .lit (.int .u8 20), .lit (.int .u8 31), .lit (.int .u8 10), .lit (.int .u8 25), .lit (.int .u8 14), .lit (.int .u8 19), .lit (.int .u8 9), .lit (.int .u8 13), .lit (.int .u8 8), .lit (.int .u8 7), .lit (.int .u8 6)]
def laid_internal_strconv_uint64pow10 {H : Type} : DataW H := .agg [.lit (.int .u64 1), .lit (.int .u64 10), .lit (.int .u64 100), .lit (.int .u64 1000), .lit (.int .u64 10000), .lit (.int .u64 100000), .lit (.int .u64 1000000), .lit (.int .u64 10000000), .lit (.int .u64 100000000), .lit (.int .u64 1000000000), .lit (.int .u64 10000000000), .lit (.int .u64 100000000000), .lit (.int .u64 1000000000000), .lit (.int .u64 10000000000000), .lit (.int .u64 100000000000000), .lit (.int .u64 1000000000000000), .lit (.int .u64 10000000000000000), .lit (.int .u64 100000000000000000), .lit (.int .u64 1000000000000000000), .lit (.int .u64 10000000000000000000)]

/-- 'laws.FnExactUnitSeries': WHATEVER THE INPUT: true; the input reads as it did. -/
def fnExactUnitSeriesSpec : ChangeSpec := { name := "fnExactUnitSeries", fn := fun _ => fun
  | [d1, d2] => { results := [.lit (.bool true)], args := [d1, d2] }
  | _ => none }
def fnExactUnitSeriesRow : OpenClaim := { program := "ytoeednnkadmjpaadoor", sum := "fec644dde3aa9d7ad007f1c7b1e43927725771e8e7cc65dacf5d3ff241b10da9", func := "loop.example/g01260/laws.FnExactUnitSeries", spec := "fnExactUnitSeries", named := ["internal/strconv.uint64pow10", "math/bits.deBruijn32tab", "math/bits.deBruijn64tab"], apart := false, laid := [("math/bits.deBruijn32tab", laid_math_bits_deBruijn32tab), ("math/bits.deBruijn64tab", laid_math_bits_deBruijn64tab), ("internal/strconv.uint64pow10", laid_internal_strconv_uint64pow10)] }
def FnExactUnitSeriesSaid : Prop := fnExactUnitSeriesRow.holds Tryd.pinned (OpenSpec.ofChange fnExactUnitSeriesSpec)

/-- ITS FALSE NEIGHBOUR: 'it returns false'. Refute it at one input. -/
def fnExactUnitSeriesWrong : ChangeSpec := { name := "fnExactUnitSeries", fn := fun _ => fun
  | [d1, d2] => { results := [.lit (.bool false)], args := [d1, d2] }
  | _ => none }
def FnExactUnitSeriesWrongFalsely : Prop := fnExactUnitSeriesRow.holds Tryd.pinned (OpenSpec.ofChange fnExactUnitSeriesWrong)

/-- 'laws.FnExactMultiplySeries': WHATEVER THE INPUT: true; the input reads as it did. -/
def fnExactMultiplySeriesSpec : ChangeSpec := { name := "fnExactMultiplySeries", fn := fun _ => fun
  | [d1, d2] => { results := [.lit (.bool true)], args := [d1, d2] }
  | _ => none }
def fnExactMultiplySeriesRow : OpenClaim := { program := "ytoeednnkadmjpaadoor", sum := "fec644dde3aa9d7ad007f1c7b1e43927725771e8e7cc65dacf5d3ff241b10da9", func := "loop.example/g01260/laws.FnExactMultiplySeries", spec := "fnExactMultiplySeries", inPlace := ["internal/bytealg.abigen_runtime_cmpstring"], unfollowed := true, recurses := true, named := ["internal/strconv.uint64pow10", "math/bits.deBruijn32tab", "math/bits.deBruijn64tab"], apart := false, laid := [("math/bits.deBruijn32tab", laid_math_bits_deBruijn32tab), ("math/bits.deBruijn64tab", laid_math_bits_deBruijn64tab), ("internal/strconv.uint64pow10", laid_internal_strconv_uint64pow10)] }
def FnExactMultiplySeriesSaid : Prop := fnExactMultiplySeriesRow.holds Tryd.pinned (OpenSpec.ofChange fnExactMultiplySeriesSpec)

/-- ITS FALSE NEIGHBOUR: 'it returns false'. Refute it at one input. -/
def fnExactMultiplySeriesWrong : ChangeSpec := { name := "fnExactMultiplySeries", fn := fun _ => fun
  | [d1, d2] => { results := [.lit (.bool false)], args := [d1, d2] }
  | _ => none }
def FnExactMultiplySeriesWrongFalsely : Prop := fnExactMultiplySeriesRow.holds Tryd.pinned (OpenSpec.ofChange fnExactMultiplySeriesWrong)

/-- 'laws.FnExactPowerSeries': WHATEVER THE INPUT: true; the input reads as it did. -/
def fnExactPowerSeriesSpec : ChangeSpec := { name := "fnExactPowerSeries", fn := fun _ => fun
  | [d1, d2] => { results := [.lit (.bool true)], args := [d1, d2] }
  | _ => none }
def fnExactPowerSeriesRow : OpenClaim := { program := "ytoeednnkadmjpaadoor", sum := "fec644dde3aa9d7ad007f1c7b1e43927725771e8e7cc65dacf5d3ff241b10da9", func := "loop.example/g01260/laws.FnExactPowerSeries", spec := "fnExactPowerSeries", inPlace := ["internal/bytealg.abigen_runtime_cmpstring"], unfollowed := true, recurses := true, named := ["internal/strconv.uint64pow10", "math/bits.deBruijn32tab", "math/bits.deBruijn64tab"], apart := false, laid := [("math/bits.deBruijn32tab", laid_math_bits_deBruijn32tab), ("math/bits.deBruijn64tab", laid_math_bits_deBruijn64tab), ("internal/strconv.uint64pow10", laid_internal_strconv_uint64pow10)] }
def FnExactPowerSeriesSaid : Prop := fnExactPowerSeriesRow.holds Tryd.pinned (OpenSpec.ofChange fnExactPowerSeriesSpec)

/-- ITS FALSE NEIGHBOUR: 'it returns false'. Refute it at one input. -/
def fnExactPowerSeriesWrong : ChangeSpec := { name := "fnExactPowerSeries", fn := fun _ => fun
  | [d1, d2] => { results := [.lit (.bool false)], args := [d1, d2] }
  | _ => none }
def FnExactPowerSeriesWrongFalsely : Prop := fnExactPowerSeriesRow.holds Tryd.pinned (OpenSpec.ofChange fnExactPowerSeriesWrong)

/-- 'laws.FnExactCommutatorOf': WHATEVER THE INPUT: true; the input reads as it did. -/
def fnExactCommutatorOfSpec : ChangeSpec := { name := "fnExactCommutatorOf", fn := fun _ => fun
  | [d1, d2] => { results := [.lit (.bool true)], args := [d1, d2] }
  | _ => none }
def fnExactCommutatorOfRow : OpenClaim := { program := "ytoeednnkadmjpaadoor", sum := "fec644dde3aa9d7ad007f1c7b1e43927725771e8e7cc65dacf5d3ff241b10da9", func := "loop.example/g01260/laws.FnExactCommutatorOf", spec := "fnExactCommutatorOf", inPlace := ["internal/bytealg.abigen_runtime_cmpstring"], unfollowed := true, recurses := true, named := ["internal/strconv.uint64pow10", "math/bits.deBruijn32tab", "math/bits.deBruijn64tab"], apart := false, laid := [("math/bits.deBruijn32tab", laid_math_bits_deBruijn32tab), ("math/bits.deBruijn64tab", laid_math_bits_deBruijn64tab), ("internal/strconv.uint64pow10", laid_internal_strconv_uint64pow10)] }
def FnExactCommutatorOfSaid : Prop := fnExactCommutatorOfRow.holds Tryd.pinned (OpenSpec.ofChange fnExactCommutatorOfSpec)

/-- ITS FALSE NEIGHBOUR: 'it returns false'. Refute it at one input. -/
def fnExactCommutatorOfWrong : ChangeSpec := { name := "fnExactCommutatorOf", fn := fun _ => fun
  | [d1, d2] => { results := [.lit (.bool false)], args := [d1, d2] }
  | _ => none }
def FnExactCommutatorOfWrongFalsely : Prop := fnExactCommutatorOfRow.holds Tryd.pinned (OpenSpec.ofChange fnExactCommutatorOfWrong)

/-- 'laws.FnExactReversalOf': WHATEVER THE INPUT: true; the input reads as it did. -/
def fnExactReversalOfSpec : ChangeSpec := { name := "fnExactReversalOf", fn := fun _ => fun
  | [d] => { results := [.lit (.bool true)], args := [d] }
  | _ => none }
def fnExactReversalOfRow : OpenClaim := { program := "ytoeednnkadmjpaadoor", sum := "fec644dde3aa9d7ad007f1c7b1e43927725771e8e7cc65dacf5d3ff241b10da9", func := "loop.example/g01260/laws.FnExactReversalOf", spec := "fnExactReversalOf", inPlace := ["internal/bytealg.abigen_runtime_cmpstring"], named := ["internal/strconv.uint64pow10", "math/bits.deBruijn32tab", "math/bits.deBruijn64tab"], apart := false, laid := [("math/bits.deBruijn32tab", laid_math_bits_deBruijn32tab), ("math/bits.deBruijn64tab", laid_math_bits_deBruijn64tab), ("internal/strconv.uint64pow10", laid_internal_strconv_uint64pow10)] }
def FnExactReversalOfSaid : Prop := fnExactReversalOfRow.holds Tryd.pinned (OpenSpec.ofChange fnExactReversalOfSpec)

/-- ITS FALSE NEIGHBOUR: 'it returns false'. Refute it at one input. -/
def fnExactReversalOfWrong : ChangeSpec := { name := "fnExactReversalOf", fn := fun _ => fun
  | [d] => { results := [.lit (.bool false)], args := [d] }
  | _ => none }
def FnExactReversalOfWrongFalsely : Prop := fnExactReversalOfRow.holds Tryd.pinned (OpenSpec.ofChange fnExactReversalOfWrong)

/-- 'laws.FnExactAntipodeOf': WHATEVER THE INPUT: true; the input reads as it did. -/
def fnExactAntipodeOfSpec : ChangeSpec := { name := "fnExactAntipodeOf", fn := fun _ => fun
  | [d] => { results := [.lit (.bool true)], args := [d] }
  | _ => none }
def fnExactAntipodeOfRow : OpenClaim := { program := "ytoeednnkadmjpaadoor", sum := "fec644dde3aa9d7ad007f1c7b1e43927725771e8e7cc65dacf5d3ff241b10da9", func := "loop.example/g01260/laws.FnExactAntipodeOf", spec := "fnExactAntipodeOf", inPlace := ["internal/bytealg.abigen_runtime_cmpstring"], named := ["internal/strconv.uint64pow10", "math/bits.deBruijn32tab", "math/bits.deBruijn64tab"], apart := false, laid := [("math/bits.deBruijn32tab", laid_math_bits_deBruijn32tab), ("math/bits.deBruijn64tab", laid_math_bits_deBruijn64tab), ("internal/strconv.uint64pow10", laid_internal_strconv_uint64pow10)] }
def FnExactAntipodeOfSaid : Prop := fnExactAntipodeOfRow.holds Tryd.pinned (OpenSpec.ofChange fnExactAntipodeOfSpec)

/-- ITS FALSE NEIGHBOUR: 'it returns false'. Refute it at one input. -/
def fnExactAntipodeOfWrong : ChangeSpec := { name := "fnExactAntipodeOf", fn := fun _ => fun
  | [d] => { results := [.lit (.bool false)], args := [d] }
  | _ => none }
def FnExactAntipodeOfWrongFalsely : Prop := fnExactAntipodeOfRow.holds Tryd.pinned (OpenSpec.ofChange fnExactAntipodeOfWrong)

/-- 'laws.FnExactAreSignaturesEqual': WHATEVER THE INPUT: true; the input reads as it did. -/
def fnExactAreSignaturesEqualSpec : ChangeSpec := { name := "fnExactAreSignaturesEqual", fn := fun _ => fun
  | [d1, d2, d3, d4] => { results := [.lit (.bool true)], args := [d1, d2, d3, d4] }
  | _ => none }
def fnExactAreSignaturesEqualRow : OpenClaim := { program := "ytoeednnkadmjpaadoor", sum := "fec644dde3aa9d7ad007f1c7b1e43927725771e8e7cc65dacf5d3ff241b10da9", func := "loop.example/g01260/laws.FnExactAreSignaturesEqual", spec := "fnExactAreSignaturesEqual", unfollowed := true, recurses := true, named := ["internal/strconv.uint64pow10", "math/bits.deBruijn32tab", "math/bits.deBruijn64tab"], apart := false, laid := [("math/bits.deBruijn32tab", laid_math_bits_deBruijn32tab), ("math/bits.deBruijn64tab", laid_math_bits_deBruijn64tab), ("internal/strconv.uint64pow10", laid_internal_strconv_uint64pow10)] }
def FnExactAreSignaturesEqualSaid : Prop := fnExactAreSignaturesEqualRow.holds Tryd.pinned (OpenSpec.ofChange fnExactAreSignaturesEqualSpec)

/-- ITS FALSE NEIGHBOUR: 'it returns false'. Refute it at one input. -/
def fnExactAreSignaturesEqualWrong : ChangeSpec := { name := "fnExactAreSignaturesEqual", fn := fun _ => fun
  | [d1, d2, d3, d4] => { results := [.lit (.bool false)], args := [d1, d2, d3, d4] }
  | _ => none }
def FnExactAreSignaturesEqualWrongFalsely : Prop := fnExactAreSignaturesEqualRow.holds Tryd.pinned (OpenSpec.ofChange fnExactAreSignaturesEqualWrong)

/-- 'laws.FnExactRepeatedBracket': WHATEVER THE INPUT: true; the input reads as it did. -/
def fnExactRepeatedBracketSpec : ChangeSpec := { name := "fnExactRepeatedBracket", fn := fun _ => fun
  | [d1, d2, d3] => { results := [.lit (.bool true)], args := [d1, d2, d3] }
  | _ => none }
def fnExactRepeatedBracketRow : OpenClaim := { program := "ytoeednnkadmjpaadoor", sum := "fec644dde3aa9d7ad007f1c7b1e43927725771e8e7cc65dacf5d3ff241b10da9", func := "loop.example/g01260/laws.FnExactRepeatedBracket", spec := "fnExactRepeatedBracket", inPlace := ["internal/bytealg.abigen_runtime_cmpstring"], unfollowed := true, recurses := true, named := ["internal/strconv.uint64pow10", "math/bits.deBruijn32tab", "math/bits.deBruijn64tab"], apart := false, laid := [("math/bits.deBruijn32tab", laid_math_bits_deBruijn32tab), ("math/bits.deBruijn64tab", laid_math_bits_deBruijn64tab), ("internal/strconv.uint64pow10", laid_internal_strconv_uint64pow10)] }
def FnExactRepeatedBracketSaid : Prop := fnExactRepeatedBracketRow.holds Tryd.pinned (OpenSpec.ofChange fnExactRepeatedBracketSpec)

/-- ITS FALSE NEIGHBOUR: 'it returns false'. Refute it at one input. -/
def fnExactRepeatedBracketWrong : ChangeSpec := { name := "fnExactRepeatedBracket", fn := fun _ => fun
  | [d1, d2, d3] => { results := [.lit (.bool false)], args := [d1, d2, d3] }
  | _ => none }
def FnExactRepeatedBracketWrongFalsely : Prop := fnExactRepeatedBracketRow.holds Tryd.pinned (OpenSpec.ofChange fnExactRepeatedBracketWrong)

/- THE SECOND FORM. 'bulk': how many values and letters a reading holds, each counted each time it is reached (what is shared counts as often as it is met; a slice's spare places count too). A statement '..UptoSaid' is the law's where the arguments, and the package variables that the reading takes, are together of bulk at most 1048576: NARROWER than '..Said'. Prove '..Said' where nothing that the law and all that it calls make is longer than what came in: it says more and counts as full. Else prove '..UptoSaid'. A law counts once. -/
mutual
def uptoBulk {H : Type} : DataW H → Nat
  | .lit (.string bytes) => bytes.length + 1
  | .lit _ => 1
  | .nil => 1
  | .ptr d => uptoBulk d + 1
  | .slice elems spare => uptoBulkAll elems + uptoBulkAll spare + 1
  | .agg parts => uptoBulkAll parts + 1
  | .iface _ d => uptoBulk d + 1
  | .map entries => uptoBulkEntries entries + 1
  | .held _ => 1
def uptoBulkAll {H : Type} : List (DataW H) → Nat
  | [] => 0
  | d :: r => uptoBulk d + uptoBulkAll r
def uptoBulkEntries {H : Type} : List (Lit × DataW H) → Nat
  | [] => 0
  | x :: r => uptoBulkEntry x + uptoBulkEntries r
def uptoBulkEntry {H : Type} : Lit × DataW H → Nat
  | (.string bytes, d) => bytes.length + uptoBulk d + 1
  | (_, d) => uptoBulk d + 1
 end
def uptoSmall : (H : Type) → List (DataW H) → Bool := fun _ ds => decide (uptoBulkAll ds ≤ 1048576)
def OpenSpec.upto (s : _root_.Go.ChangeSpec) : _root_.Go.OpenSpec := { _root_.Go.OpenSpec.ofChange s with cond := some uptoSmall }

/-- 'laws.FnExactUnitSeries', WHERE WHAT IT READS IS OF BULK AT MOST 1048576: true; the input reads as it did. -/
def fnExactUnitSeriesUptoRow : OpenClaim := { program := "ytoeednnkadmjpaadoor", sum := "fec644dde3aa9d7ad007f1c7b1e43927725771e8e7cc65dacf5d3ff241b10da9", func := "loop.example/g01260/laws.FnExactUnitSeries", spec := "fnExactUnitSeries", named := ["internal/strconv.uint64pow10", "math/bits.deBruijn32tab", "math/bits.deBruijn64tab"], apart := false, laid := [("math/bits.deBruijn32tab", laid_math_bits_deBruijn32tab), ("math/bits.deBruijn64tab", laid_math_bits_deBruijn64tab), ("internal/strconv.uint64pow10", laid_internal_strconv_uint64pow10)], narrowed := true }
def FnExactUnitSeriesUptoSaid : Prop := fnExactUnitSeriesUptoRow.holds Tryd.pinned (OpenSpec.upto fnExactUnitSeriesSpec)

/-- 'laws.FnExactMultiplySeries', WHERE WHAT IT READS IS OF BULK AT MOST 1048576: true; the input reads as it did. -/
def fnExactMultiplySeriesUptoRow : OpenClaim := { program := "ytoeednnkadmjpaadoor", sum := "fec644dde3aa9d7ad007f1c7b1e43927725771e8e7cc65dacf5d3ff241b10da9", func := "loop.example/g01260/laws.FnExactMultiplySeries", spec := "fnExactMultiplySeries", inPlace := ["internal/bytealg.abigen_runtime_cmpstring"], unfollowed := true, recurses := true, named := ["internal/strconv.uint64pow10", "math/bits.deBruijn32tab", "math/bits.deBruijn64tab"], apart := false, laid := [("math/bits.deBruijn32tab", laid_math_bits_deBruijn32tab), ("math/bits.deBruijn64tab", laid_math_bits_deBruijn64tab), ("internal/strconv.uint64pow10", laid_internal_strconv_uint64pow10)], narrowed := true }
def FnExactMultiplySeriesUptoSaid : Prop := fnExactMultiplySeriesUptoRow.holds Tryd.pinned (OpenSpec.upto fnExactMultiplySeriesSpec)

/-- 'laws.FnExactPowerSeries', WHERE WHAT IT READS IS OF BULK AT MOST 1048576: true; the input reads as it did. -/
def fnExactPowerSeriesUptoRow : OpenClaim := { program := "ytoeednnkadmjpaadoor", sum := "fec644dde3aa9d7ad007f1c7b1e43927725771e8e7cc65dacf5d3ff241b10da9", func := "loop.example/g01260/laws.FnExactPowerSeries", spec := "fnExactPowerSeries", inPlace := ["internal/bytealg.abigen_runtime_cmpstring"], unfollowed := true, recurses := true, named := ["internal/strconv.uint64pow10", "math/bits.deBruijn32tab", "math/bits.deBruijn64tab"], apart := false, laid := [("math/bits.deBruijn32tab", laid_math_bits_deBruijn32tab), ("math/bits.deBruijn64tab", laid_math_bits_deBruijn64tab), ("internal/strconv.uint64pow10", laid_internal_strconv_uint64pow10)], narrowed := true }
def FnExactPowerSeriesUptoSaid : Prop := fnExactPowerSeriesUptoRow.holds Tryd.pinned (OpenSpec.upto fnExactPowerSeriesSpec)

/-- 'laws.FnExactCommutatorOf', WHERE WHAT IT READS IS OF BULK AT MOST 1048576: true; the input reads as it did. -/
def fnExactCommutatorOfUptoRow : OpenClaim := { program := "ytoeednnkadmjpaadoor", sum := "fec644dde3aa9d7ad007f1c7b1e43927725771e8e7cc65dacf5d3ff241b10da9", func := "loop.example/g01260/laws.FnExactCommutatorOf", spec := "fnExactCommutatorOf", inPlace := ["internal/bytealg.abigen_runtime_cmpstring"], unfollowed := true, recurses := true, named := ["internal/strconv.uint64pow10", "math/bits.deBruijn32tab", "math/bits.deBruijn64tab"], apart := false, laid := [("math/bits.deBruijn32tab", laid_math_bits_deBruijn32tab), ("math/bits.deBruijn64tab", laid_math_bits_deBruijn64tab), ("internal/strconv.uint64pow10", laid_internal_strconv_uint64pow10)], narrowed := true }
def FnExactCommutatorOfUptoSaid : Prop := fnExactCommutatorOfUptoRow.holds Tryd.pinned (OpenSpec.upto fnExactCommutatorOfSpec)

/-- 'laws.FnExactReversalOf', WHERE WHAT IT READS IS OF BULK AT MOST 1048576: true; the input reads as it did. -/
def fnExactReversalOfUptoRow : OpenClaim := { program := "ytoeednnkadmjpaadoor", sum := "fec644dde3aa9d7ad007f1c7b1e43927725771e8e7cc65dacf5d3ff241b10da9", func := "loop.example/g01260/laws.FnExactReversalOf", spec := "fnExactReversalOf", inPlace := ["internal/bytealg.abigen_runtime_cmpstring"], named := ["internal/strconv.uint64pow10", "math/bits.deBruijn32tab", "math/bits.deBruijn64tab"], apart := false, laid := [("math/bits.deBruijn32tab", laid_math_bits_deBruijn32tab), ("math/bits.deBruijn64tab", laid_math_bits_deBruijn64tab), ("internal/strconv.uint64pow10", laid_internal_strconv_uint64pow10)], narrowed := true }
def FnExactReversalOfUptoSaid : Prop := fnExactReversalOfUptoRow.holds Tryd.pinned (OpenSpec.upto fnExactReversalOfSpec)

/-- 'laws.FnExactAntipodeOf', WHERE WHAT IT READS IS OF BULK AT MOST 1048576: true; the input reads as it did. -/
def fnExactAntipodeOfUptoRow : OpenClaim := { program := "ytoeednnkadmjpaadoor", sum := "fec644dde3aa9d7ad007f1c7b1e43927725771e8e7cc65dacf5d3ff241b10da9", func := "loop.example/g01260/laws.FnExactAntipodeOf", spec := "fnExactAntipodeOf", inPlace := ["internal/bytealg.abigen_runtime_cmpstring"], named := ["internal/strconv.uint64pow10", "math/bits.deBruijn32tab", "math/bits.deBruijn64tab"], apart := false, laid := [("math/bits.deBruijn32tab", laid_math_bits_deBruijn32tab), ("math/bits.deBruijn64tab", laid_math_bits_deBruijn64tab), ("internal/strconv.uint64pow10", laid_internal_strconv_uint64pow10)], narrowed := true }
def FnExactAntipodeOfUptoSaid : Prop := fnExactAntipodeOfUptoRow.holds Tryd.pinned (OpenSpec.upto fnExactAntipodeOfSpec)

/-- 'laws.FnExactAreSignaturesEqual', WHERE WHAT IT READS IS OF BULK AT MOST 1048576: true; the input reads as it did. -/
def fnExactAreSignaturesEqualUptoRow : OpenClaim := { program := "ytoeednnkadmjpaadoor", sum := "fec644dde3aa9d7ad007f1c7b1e43927725771e8e7cc65dacf5d3ff241b10da9", func := "loop.example/g01260/laws.FnExactAreSignaturesEqual", spec := "fnExactAreSignaturesEqual", unfollowed := true, recurses := true, named := ["internal/strconv.uint64pow10", "math/bits.deBruijn32tab", "math/bits.deBruijn64tab"], apart := false, laid := [("math/bits.deBruijn32tab", laid_math_bits_deBruijn32tab), ("math/bits.deBruijn64tab", laid_math_bits_deBruijn64tab), ("internal/strconv.uint64pow10", laid_internal_strconv_uint64pow10)], narrowed := true }
def FnExactAreSignaturesEqualUptoSaid : Prop := fnExactAreSignaturesEqualUptoRow.holds Tryd.pinned (OpenSpec.upto fnExactAreSignaturesEqualSpec)

/-- 'laws.FnExactRepeatedBracket', WHERE WHAT IT READS IS OF BULK AT MOST 1048576: true; the input reads as it did. -/
def fnExactRepeatedBracketUptoRow : OpenClaim := { program := "ytoeednnkadmjpaadoor", sum := "fec644dde3aa9d7ad007f1c7b1e43927725771e8e7cc65dacf5d3ff241b10da9", func := "loop.example/g01260/laws.FnExactRepeatedBracket", spec := "fnExactRepeatedBracket", inPlace := ["internal/bytealg.abigen_runtime_cmpstring"], unfollowed := true, recurses := true, named := ["internal/strconv.uint64pow10", "math/bits.deBruijn32tab", "math/bits.deBruijn64tab"], apart := false, laid := [("math/bits.deBruijn32tab", laid_math_bits_deBruijn32tab), ("math/bits.deBruijn64tab", laid_math_bits_deBruijn64tab), ("internal/strconv.uint64pow10", laid_internal_strconv_uint64pow10)], narrowed := true }
def FnExactRepeatedBracketUptoSaid : Prop := fnExactRepeatedBracketUptoRow.holds Tryd.pinned (OpenSpec.upto fnExactRepeatedBracketSpec)

end Rows
end Go.Proofs.YtoeednnkadmjpaaDoor
