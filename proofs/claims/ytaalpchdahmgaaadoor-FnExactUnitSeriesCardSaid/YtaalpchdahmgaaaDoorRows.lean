/-
  NARROWER THAN 'FOR EVERY INPUT', by the rows' own cells (each row's printed sentence says how): FnExactWordsOf: laid · FnExactFractionText: laid · FnExactUnitSeries: laid · FnExactMultiplySeries: laid · FnExactReversalOf: laid · FnExactAntipodeOf: laid · FnExactShuffleWords: laid · FnExactShufflePower: laid · FnExactValueAtShuffle: laid · FnExactIsGroupLike: laid · FnExactIsLieSeries: laid · FnWordNumbers: laid.
  DERIVED. THE GIVEN ROWS OF THIS SEAT. 12 by the template 'for every input the law returns true; each argument reads behind the call as it read before'; 0 by the template 'total and deterministic' (their statements: YtaalpchdahmgaaaDoorTotals.lean).
  GIVEN WITH THE SEED: the statements are not yours to turn. If you find one false, say at which input.
  Laid BY PROGRAM, IN A SANDBOX (cutbox-rows.mjs): the forced cells as the released guide's own fill.sh prints them over the translation 88106493c89b5897… (all of the seat's roots in one cut). By AI agents, Wed Nov 11 2026. No macro, syntax, notation, axiom, sorry.
-/
import Derived.Test.YtaalpchdahmgaaaDoorChecked
import GoSem.Claim
import GoSem.ClaimJoined
import GoSem.ClaimMapViews
import Derived.JoinedTies
import Derived.KernelRfl
namespace Go.Proofs.YtaalpchdahmgaaaDoor
/- THE CELL 'sum', in the pinned program and in every row, IS THE sha256 OF THE DUMP (.gsa) THAT YtaalpchdahmgaaaDoorProg.lean LOADS. Nothing in Lean hashes anything: it is a label: what it is worth is what the hold of that sum in a sandbox is worth. -/
noncomputable def Tryd.pinned : Pinned := { name := "ytaalpchdahmgaaadoor", sum := "88106493c89b589775a60c76a31baec2fe404c7044a2e518ff95e7cc2edde094", checked := Tryd.checked }
namespace Rows
def none {H : Type} : Left H := { results := [], args := [] }

/- WHAT THE LISTED PACKAGE-LEVEL VARIABLES READ AS WHEN THE CALL BEGINS. Each datum BY PROGRAM (the guide's laid-datum.mjs) off the statement by which the dump's own 'gosem.cut.vars' lays the variable. In a bare row this is a premise. The card (YtaalpchdahmgaaaDoorCards.lean) ties it to the program's text. -/
def laid_math_bits_deBruijn32tab {H : Type} : DataW H := .agg [.lit (.int .u8 0), .lit (.int .u8 1), .lit (.int .u8 28), .lit (.int .u8 2), .lit (.int .u8 29), .lit (.int .u8 14), .lit (.int .u8 24), .lit (.int .u8 3), .lit (.int .u8 30), .lit (.int .u8 22), .lit (.int .u8 20), .lit (.int .u8 15), .lit (.int .u8 25), .lit (.int .u8 17), .lit (.int .u8 4), .lit (.int .u8 8), .lit (.int .u8 31), .lit (.int .u8 27), .lit (.int .u8 13), .lit (.int .u8 23), .lit (.int .u8 21), .lit (.int .u8 19), .lit (.int .u8 16), .lit (.int .u8 7), .lit (.int .u8 26), .lit (.int .u8 12), .lit (.int .u8 18), .lit (.int .u8 6), .lit (.int .u8 11), .lit (.int .u8 5), .lit (.int .u8 10), .lit (.int .u8 9)]
def laid_math_bits_deBruijn64tab {H : Type} : DataW H := .agg [.lit (.int .u8 0), .lit (.int .u8 1), .lit (.int .u8 56), .lit (.int .u8 2), .lit (.int .u8 57), .lit (.int .u8 49), .lit (.int .u8 28), .lit (.int .u8 3), .lit (.int .u8 61), .lit (.int .u8 58), .lit (.int .u8 42), .lit (.int .u8 50), .lit (.int .u8 38), .lit (.int .u8 29), .lit (.int .u8 17), .lit (.int .u8 4), .lit (.int .u8 62), .lit (.int .u8 47), .lit (.int .u8 59), .lit (.int .u8 36), .lit (.int .u8 45), .lit (.int .u8 43), .lit (.int .u8 51), .lit (.int .u8 22), .lit (.int .u8 53), .lit (.int .u8 39), .lit (.int .u8 33), .lit (.int .u8 30), .lit (.int .u8 24), .lit (.int .u8 18), .lit (.int .u8 12), .lit (.int .u8 5), .lit (.int .u8 63), .lit (.int .u8 55), .lit (.int .u8 48), .lit (.int .u8 27), .lit (.int .u8 60), .lit (.int .u8 41), .lit (.int .u8 37), .lit (.int .u8 16), .lit (.int .u8 46), .lit (.int .u8 35), .lit (.int .u8 44), .lit (.int .u8 21), .lit (.int .u8 52), .lit (.int .u8 32), .lit (.int .u8 23), .lit (.int .u8 11), .lit (.int .u8 54), .lit (.int .u8 26), .lit (.int .u8 40), .lit (.int .u8 15), .lit (.int .u8 34), .lit (.int .u8 20), .lit (.int .u8 31), .lit (.int .u8 10), .lit (.int .u8 25), .lit (.int .u8 14), .lit (.int .u8 19), .lit (.int .u8 9), .lit (.int .u8 13), .lit (.int .u8 8), .lit (.int .u8 7), .lit (.int .u8 6)]
def laid_internal_strconv_uint64pow10 {H : Type} : DataW H := .agg [.lit (.int .u64 1), .lit (.int .u64 10), .lit (.int .u64 100), .lit (.int .u64 1000), .lit (.int .u64 10000), .lit (.int .u64 100000), .lit (.int .u64 1000000), .lit (.int .u64 10000000), .lit (.int .u64 100000000), .lit (.int .u64 1000000000), .lit (.int .u64 10000000000), .lit (.int .u64 100000000000), .lit (.int .u64 1000000000000), .lit (.int .u64 10000000000000), .lit (.int .u64 100000000000000), .lit (.int .u64 1000000000000000), .lit (.int .u64 10000000000000000), .lit (.int .u64 100000000000000000), .lit (.int .u64 1000000000000000000), .lit (.int .u64 10000000000000000000)]

/-- 'laws.FnExactWordsOf': WHATEVER THE INPUT: true; the input reads as it did. -/
def fnExactWordsOfSpec : ChangeSpec := { name := "fnExactWordsOf", fn := fun _ => fun
  | [d1, d2] => { results := [.lit (.bool true)], args := [d1, d2] }
  | _ => none }
def fnExactWordsOfRow : OpenClaim := { program := "ytaalpchdahmgaaadoor", sum := "88106493c89b589775a60c76a31baec2fe404c7044a2e518ff95e7cc2edde094", func := "loop.example/g01260/laws.FnExactWordsOf", spec := "fnExactWordsOf", named := ["internal/strconv.uint64pow10", "math/bits.deBruijn32tab", "math/bits.deBruijn64tab"], plainKeys := false, apart := false, laid := [("math/bits.deBruijn32tab", laid_math_bits_deBruijn32tab), ("math/bits.deBruijn64tab", laid_math_bits_deBruijn64tab), ("internal/strconv.uint64pow10", laid_internal_strconv_uint64pow10)] }
def FnExactWordsOfSaid : Prop := fnExactWordsOfRow.holds Tryd.pinned (OpenSpec.ofChange fnExactWordsOfSpec)

/-- ITS FALSE NEIGHBOUR: 'it returns false'. Refute it at one input. -/
def fnExactWordsOfWrong : ChangeSpec := { name := "fnExactWordsOf", fn := fun _ => fun
  | [d1, d2] => { results := [.lit (.bool false)], args := [d1, d2] }
  | _ => none }
def FnExactWordsOfWrongFalsely : Prop := fnExactWordsOfRow.holds Tryd.pinned (OpenSpec.ofChange fnExactWordsOfWrong)

/-- 'laws.FnExactFractionText': WHATEVER THE INPUT: true; the input reads as it did. -/
def fnExactFractionTextSpec : ChangeSpec := { name := "fnExactFractionText", fn := fun _ => fun
  | [d] => { results := [.lit (.bool true)], args := [d] }
  | _ => none }
def fnExactFractionTextRow : OpenClaim := { program := "ytaalpchdahmgaaadoor", sum := "88106493c89b589775a60c76a31baec2fe404c7044a2e518ff95e7cc2edde094", func := "loop.example/g01260/laws.FnExactFractionText", spec := "fnExactFractionText", recurses := true, named := ["internal/strconv.uint64pow10", "math/bits.deBruijn32tab", "math/bits.deBruijn64tab"], plainKeys := false, apart := false, laid := [("math/bits.deBruijn32tab", laid_math_bits_deBruijn32tab), ("math/bits.deBruijn64tab", laid_math_bits_deBruijn64tab), ("internal/strconv.uint64pow10", laid_internal_strconv_uint64pow10)] }
def FnExactFractionTextSaid : Prop := fnExactFractionTextRow.holds Tryd.pinned (OpenSpec.ofChange fnExactFractionTextSpec)

/-- ITS FALSE NEIGHBOUR: 'it returns false'. Refute it at one input. -/
def fnExactFractionTextWrong : ChangeSpec := { name := "fnExactFractionText", fn := fun _ => fun
  | [d] => { results := [.lit (.bool false)], args := [d] }
  | _ => none }
def FnExactFractionTextWrongFalsely : Prop := fnExactFractionTextRow.holds Tryd.pinned (OpenSpec.ofChange fnExactFractionTextWrong)

/-- 'laws.FnExactUnitSeries': WHATEVER THE INPUT: true; the input reads as it did. -/
def fnExactUnitSeriesSpec : ChangeSpec := { name := "fnExactUnitSeries", fn := fun _ => fun
  | [d1, d2] => { results := [.lit (.bool true)], args := [d1, d2] }
  | _ => none }
def fnExactUnitSeriesRow : OpenClaim := { program := "ytaalpchdahmgaaadoor", sum := "88106493c89b589775a60c76a31baec2fe404c7044a2e518ff95e7cc2edde094", func := "loop.example/g01260/laws.FnExactUnitSeries", spec := "fnExactUnitSeries", named := ["internal/strconv.uint64pow10", "math/bits.deBruijn32tab", "math/bits.deBruijn64tab"], plainKeys := false, apart := false, laid := [("math/bits.deBruijn32tab", laid_math_bits_deBruijn32tab), ("math/bits.deBruijn64tab", laid_math_bits_deBruijn64tab), ("internal/strconv.uint64pow10", laid_internal_strconv_uint64pow10)] }
def FnExactUnitSeriesSaid : Prop := fnExactUnitSeriesRow.holds Tryd.pinned (OpenSpec.ofChange fnExactUnitSeriesSpec)

/-- ITS FALSE NEIGHBOUR: 'it returns false'. Refute it at one input. -/
def fnExactUnitSeriesWrong : ChangeSpec := { name := "fnExactUnitSeries", fn := fun _ => fun
  | [d1, d2] => { results := [.lit (.bool false)], args := [d1, d2] }
  | _ => none }
def FnExactUnitSeriesWrongFalsely : Prop := fnExactUnitSeriesRow.holds Tryd.pinned (OpenSpec.ofChange fnExactUnitSeriesWrong)

/-- 'laws.FnExactMultiplySeries': WHATEVER THE INPUT: true; the input reads as it did. -/
def fnExactMultiplySeriesSpec : ChangeSpec := { name := "fnExactMultiplySeries", fn := fun _ => fun
  | [d1, d2] => { results := [.lit (.bool true)], args := [d1, d2] }
  | _ => none }
def fnExactMultiplySeriesRow : OpenClaim := { program := "ytaalpchdahmgaaadoor", sum := "88106493c89b589775a60c76a31baec2fe404c7044a2e518ff95e7cc2edde094", func := "loop.example/g01260/laws.FnExactMultiplySeries", spec := "fnExactMultiplySeries", inPlace := ["internal/bytealg.abigen_runtime_cmpstring"], unfollowed := true, recurses := true, named := ["internal/strconv.uint64pow10", "math/bits.deBruijn32tab", "math/bits.deBruijn64tab"], plainKeys := false, apart := false, laid := [("math/bits.deBruijn32tab", laid_math_bits_deBruijn32tab), ("math/bits.deBruijn64tab", laid_math_bits_deBruijn64tab), ("internal/strconv.uint64pow10", laid_internal_strconv_uint64pow10)] }
def FnExactMultiplySeriesSaid : Prop := fnExactMultiplySeriesRow.holds Tryd.pinned (OpenSpec.ofChange fnExactMultiplySeriesSpec)

/-- ITS FALSE NEIGHBOUR: 'it returns false'. Refute it at one input. -/
def fnExactMultiplySeriesWrong : ChangeSpec := { name := "fnExactMultiplySeries", fn := fun _ => fun
  | [d1, d2] => { results := [.lit (.bool false)], args := [d1, d2] }
  | _ => none }
def FnExactMultiplySeriesWrongFalsely : Prop := fnExactMultiplySeriesRow.holds Tryd.pinned (OpenSpec.ofChange fnExactMultiplySeriesWrong)

/-- 'laws.FnExactReversalOf': WHATEVER THE INPUT: true; the input reads as it did. -/
def fnExactReversalOfSpec : ChangeSpec := { name := "fnExactReversalOf", fn := fun _ => fun
  | [d] => { results := [.lit (.bool true)], args := [d] }
  | _ => none }
def fnExactReversalOfRow : OpenClaim := { program := "ytaalpchdahmgaaadoor", sum := "88106493c89b589775a60c76a31baec2fe404c7044a2e518ff95e7cc2edde094", func := "loop.example/g01260/laws.FnExactReversalOf", spec := "fnExactReversalOf", inPlace := ["internal/bytealg.abigen_runtime_cmpstring"], named := ["internal/strconv.uint64pow10", "math/bits.deBruijn32tab", "math/bits.deBruijn64tab"], plainKeys := false, apart := false, laid := [("math/bits.deBruijn32tab", laid_math_bits_deBruijn32tab), ("math/bits.deBruijn64tab", laid_math_bits_deBruijn64tab), ("internal/strconv.uint64pow10", laid_internal_strconv_uint64pow10)] }
def FnExactReversalOfSaid : Prop := fnExactReversalOfRow.holds Tryd.pinned (OpenSpec.ofChange fnExactReversalOfSpec)

/-- ITS FALSE NEIGHBOUR: 'it returns false'. Refute it at one input. -/
def fnExactReversalOfWrong : ChangeSpec := { name := "fnExactReversalOf", fn := fun _ => fun
  | [d] => { results := [.lit (.bool false)], args := [d] }
  | _ => none }
def FnExactReversalOfWrongFalsely : Prop := fnExactReversalOfRow.holds Tryd.pinned (OpenSpec.ofChange fnExactReversalOfWrong)

/-- 'laws.FnExactAntipodeOf': WHATEVER THE INPUT: true; the input reads as it did. -/
def fnExactAntipodeOfSpec : ChangeSpec := { name := "fnExactAntipodeOf", fn := fun _ => fun
  | [d] => { results := [.lit (.bool true)], args := [d] }
  | _ => none }
def fnExactAntipodeOfRow : OpenClaim := { program := "ytaalpchdahmgaaadoor", sum := "88106493c89b589775a60c76a31baec2fe404c7044a2e518ff95e7cc2edde094", func := "loop.example/g01260/laws.FnExactAntipodeOf", spec := "fnExactAntipodeOf", inPlace := ["internal/bytealg.abigen_runtime_cmpstring"], named := ["internal/strconv.uint64pow10", "math/bits.deBruijn32tab", "math/bits.deBruijn64tab"], plainKeys := false, apart := false, laid := [("math/bits.deBruijn32tab", laid_math_bits_deBruijn32tab), ("math/bits.deBruijn64tab", laid_math_bits_deBruijn64tab), ("internal/strconv.uint64pow10", laid_internal_strconv_uint64pow10)] }
def FnExactAntipodeOfSaid : Prop := fnExactAntipodeOfRow.holds Tryd.pinned (OpenSpec.ofChange fnExactAntipodeOfSpec)

/-- ITS FALSE NEIGHBOUR: 'it returns false'. Refute it at one input. -/
def fnExactAntipodeOfWrong : ChangeSpec := { name := "fnExactAntipodeOf", fn := fun _ => fun
  | [d] => { results := [.lit (.bool false)], args := [d] }
  | _ => none }
def FnExactAntipodeOfWrongFalsely : Prop := fnExactAntipodeOfRow.holds Tryd.pinned (OpenSpec.ofChange fnExactAntipodeOfWrong)

/-- 'laws.FnExactShuffleWords': WHATEVER THE INPUT: true; the input reads as it did. -/
def fnExactShuffleWordsSpec : ChangeSpec := { name := "fnExactShuffleWords", fn := fun _ => fun
  | [d1, d2, d3, d4] => { results := [.lit (.bool true)], args := [d1, d2, d3, d4] }
  | _ => none }
def fnExactShuffleWordsRow : OpenClaim := { program := "ytaalpchdahmgaaadoor", sum := "88106493c89b589775a60c76a31baec2fe404c7044a2e518ff95e7cc2edde094", func := "loop.example/g01260/laws.FnExactShuffleWords", spec := "fnExactShuffleWords", unfollowed := true, recurses := true, named := ["internal/strconv.uint64pow10", "math/bits.deBruijn32tab", "math/bits.deBruijn64tab"], plainKeys := false, apart := false, laid := [("math/bits.deBruijn32tab", laid_math_bits_deBruijn32tab), ("math/bits.deBruijn64tab", laid_math_bits_deBruijn64tab), ("internal/strconv.uint64pow10", laid_internal_strconv_uint64pow10)] }
def FnExactShuffleWordsSaid : Prop := fnExactShuffleWordsRow.holds Tryd.pinned (OpenSpec.ofChange fnExactShuffleWordsSpec)

/-- ITS FALSE NEIGHBOUR: 'it returns false'. Refute it at one input. -/
def fnExactShuffleWordsWrong : ChangeSpec := { name := "fnExactShuffleWords", fn := fun _ => fun
  | [d1, d2, d3, d4] => { results := [.lit (.bool false)], args := [d1, d2, d3, d4] }
  | _ => none }
def FnExactShuffleWordsWrongFalsely : Prop := fnExactShuffleWordsRow.holds Tryd.pinned (OpenSpec.ofChange fnExactShuffleWordsWrong)

/-- 'laws.FnExactShufflePower': WHATEVER THE INPUT: true; the input reads as it did. -/
def fnExactShufflePowerSpec : ChangeSpec := { name := "fnExactShufflePower", fn := fun _ => fun
  | [d1, d2] => { results := [.lit (.bool true)], args := [d1, d2] }
  | _ => none }
def fnExactShufflePowerRow : OpenClaim := { program := "ytaalpchdahmgaaadoor", sum := "88106493c89b589775a60c76a31baec2fe404c7044a2e518ff95e7cc2edde094", func := "loop.example/g01260/laws.FnExactShufflePower", spec := "fnExactShufflePower", inPlace := ["internal/bytealg.abigen_runtime_cmpstring"], unfollowed := true, recurses := true, named := ["internal/strconv.uint64pow10", "math/bits.deBruijn32tab", "math/bits.deBruijn64tab"], plainKeys := false, apart := false, laid := [("math/bits.deBruijn32tab", laid_math_bits_deBruijn32tab), ("math/bits.deBruijn64tab", laid_math_bits_deBruijn64tab), ("internal/strconv.uint64pow10", laid_internal_strconv_uint64pow10)] }
def FnExactShufflePowerSaid : Prop := fnExactShufflePowerRow.holds Tryd.pinned (OpenSpec.ofChange fnExactShufflePowerSpec)

/-- ITS FALSE NEIGHBOUR: 'it returns false'. Refute it at one input. -/
def fnExactShufflePowerWrong : ChangeSpec := { name := "fnExactShufflePower", fn := fun _ => fun
  | [d1, d2] => { results := [.lit (.bool false)], args := [d1, d2] }
  | _ => none }
def FnExactShufflePowerWrongFalsely : Prop := fnExactShufflePowerRow.holds Tryd.pinned (OpenSpec.ofChange fnExactShufflePowerWrong)

/-- 'laws.FnExactValueAtShuffle': WHATEVER THE INPUT: true; the input reads as it did. -/
def fnExactValueAtShuffleSpec : ChangeSpec := { name := "fnExactValueAtShuffle", fn := fun _ => fun
  | [d1, d2, d3] => { results := [.lit (.bool true)], args := [d1, d2, d3] }
  | _ => none }
def fnExactValueAtShuffleRow : OpenClaim := { program := "ytaalpchdahmgaaadoor", sum := "88106493c89b589775a60c76a31baec2fe404c7044a2e518ff95e7cc2edde094", func := "loop.example/g01260/laws.FnExactValueAtShuffle", spec := "fnExactValueAtShuffle", inPlace := ["internal/bytealg.abigen_runtime_cmpstring"], unfollowed := true, recurses := true, named := ["internal/strconv.uint64pow10", "math/bits.deBruijn32tab", "math/bits.deBruijn64tab"], plainKeys := false, apart := false, laid := [("math/bits.deBruijn32tab", laid_math_bits_deBruijn32tab), ("math/bits.deBruijn64tab", laid_math_bits_deBruijn64tab), ("internal/strconv.uint64pow10", laid_internal_strconv_uint64pow10)] }
def FnExactValueAtShuffleSaid : Prop := fnExactValueAtShuffleRow.holds Tryd.pinned (OpenSpec.ofChange fnExactValueAtShuffleSpec)

/-- ITS FALSE NEIGHBOUR: 'it returns false'. Refute it at one input. -/
def fnExactValueAtShuffleWrong : ChangeSpec := { name := "fnExactValueAtShuffle", fn := fun _ => fun
  | [d1, d2, d3] => { results := [.lit (.bool false)], args := [d1, d2, d3] }
  | _ => none }
def FnExactValueAtShuffleWrongFalsely : Prop := fnExactValueAtShuffleRow.holds Tryd.pinned (OpenSpec.ofChange fnExactValueAtShuffleWrong)

/-- 'laws.FnExactIsGroupLike': WHATEVER THE INPUT: true; the input reads as it did. -/
def fnExactIsGroupLikeSpec : ChangeSpec := { name := "fnExactIsGroupLike", fn := fun _ => fun
  | [d] => { results := [.lit (.bool true)], args := [d] }
  | _ => none }
def fnExactIsGroupLikeRow : OpenClaim := { program := "ytaalpchdahmgaaadoor", sum := "88106493c89b589775a60c76a31baec2fe404c7044a2e518ff95e7cc2edde094", func := "loop.example/g01260/laws.FnExactIsGroupLike", spec := "fnExactIsGroupLike", inPlace := ["internal/bytealg.abigen_runtime_cmpstring"], unfollowed := true, recurses := true, named := ["internal/strconv.uint64pow10", "math/bits.deBruijn32tab", "math/bits.deBruijn64tab"], plainKeys := false, apart := false, laid := [("math/bits.deBruijn32tab", laid_math_bits_deBruijn32tab), ("math/bits.deBruijn64tab", laid_math_bits_deBruijn64tab), ("internal/strconv.uint64pow10", laid_internal_strconv_uint64pow10)] }
def FnExactIsGroupLikeSaid : Prop := fnExactIsGroupLikeRow.holds Tryd.pinned (OpenSpec.ofChange fnExactIsGroupLikeSpec)

/-- ITS FALSE NEIGHBOUR: 'it returns false'. Refute it at one input. -/
def fnExactIsGroupLikeWrong : ChangeSpec := { name := "fnExactIsGroupLike", fn := fun _ => fun
  | [d] => { results := [.lit (.bool false)], args := [d] }
  | _ => none }
def FnExactIsGroupLikeWrongFalsely : Prop := fnExactIsGroupLikeRow.holds Tryd.pinned (OpenSpec.ofChange fnExactIsGroupLikeWrong)

/-- 'laws.FnExactIsLieSeries': WHATEVER THE INPUT: true; the input reads as it did. -/
def fnExactIsLieSeriesSpec : ChangeSpec := { name := "fnExactIsLieSeries", fn := fun _ => fun
  | [d] => { results := [.lit (.bool true)], args := [d] }
  | _ => none }
def fnExactIsLieSeriesRow : OpenClaim := { program := "ytaalpchdahmgaaadoor", sum := "88106493c89b589775a60c76a31baec2fe404c7044a2e518ff95e7cc2edde094", func := "loop.example/g01260/laws.FnExactIsLieSeries", spec := "fnExactIsLieSeries", inPlace := ["internal/bytealg.abigen_runtime_cmpstring"], unfollowed := true, recurses := true, named := ["internal/strconv.uint64pow10", "math/bits.deBruijn32tab", "math/bits.deBruijn64tab"], plainKeys := false, apart := false, laid := [("math/bits.deBruijn32tab", laid_math_bits_deBruijn32tab), ("math/bits.deBruijn64tab", laid_math_bits_deBruijn64tab), ("internal/strconv.uint64pow10", laid_internal_strconv_uint64pow10)] }
def FnExactIsLieSeriesSaid : Prop := fnExactIsLieSeriesRow.holds Tryd.pinned (OpenSpec.ofChange fnExactIsLieSeriesSpec)

/-- ITS FALSE NEIGHBOUR: 'it returns false'. Refute it at one input. -/
def fnExactIsLieSeriesWrong : ChangeSpec := { name := "fnExactIsLieSeries", fn := fun _ => fun
  | [d] => { results := [.lit (.bool false)], args := [d] }
  | _ => none }
def FnExactIsLieSeriesWrongFalsely : Prop := fnExactIsLieSeriesRow.holds Tryd.pinned (OpenSpec.ofChange fnExactIsLieSeriesWrong)

/-- 'laws.FnWordNumbers': WHATEVER THE INPUT: true; the input reads as it did. -/
def fnWordNumbersSpec : ChangeSpec := { name := "fnWordNumbers", fn := fun _ => fun
  | [d] => { results := [.lit (.bool true)], args := [d] }
  | _ => none }
def fnWordNumbersRow : OpenClaim := { program := "ytaalpchdahmgaaadoor", sum := "88106493c89b589775a60c76a31baec2fe404c7044a2e518ff95e7cc2edde094", func := "loop.example/g01260/laws.FnWordNumbers", spec := "fnWordNumbers", named := ["internal/strconv.uint64pow10", "math/bits.deBruijn32tab", "math/bits.deBruijn64tab"], plainKeys := false, apart := false, laid := [("math/bits.deBruijn32tab", laid_math_bits_deBruijn32tab), ("math/bits.deBruijn64tab", laid_math_bits_deBruijn64tab), ("internal/strconv.uint64pow10", laid_internal_strconv_uint64pow10)] }
def FnWordNumbersSaid : Prop := fnWordNumbersRow.holds Tryd.pinned (OpenSpec.ofChange fnWordNumbersSpec)

/-- ITS FALSE NEIGHBOUR: 'it returns false'. Refute it at one input. -/
def fnWordNumbersWrong : ChangeSpec := { name := "fnWordNumbers", fn := fun _ => fun
  | [d] => { results := [.lit (.bool false)], args := [d] }
  | _ => none }
def FnWordNumbersWrongFalsely : Prop := fnWordNumbersRow.holds Tryd.pinned (OpenSpec.ofChange fnWordNumbersWrong)

/- THE SECOND FORM. 'bulk': how many values and letters a reading holds, each counted each time it is reached (what is shared counts as often as it is met; a slice's spare places count too). A statement '..UptoSaid' is the law's where the arguments, and the package variables that the reading takes, are together of bulk at most 1048576: NARROWER than '..Said'. Prove '..Said' where nothing that the law and all that it calls make is longer than what came in: it says more and counts as full. Else prove '..UptoSaid'. A law counts once. -/
mutual
def uptoBulk {H : Type} : DataW H → Nat
  | .lit (.string bytes) => bytes.length + 1
  | .lit _ => 1
  | .nil => 1
  | .ptr d => uptoBulk d + 1
  | .slice elems spare => uptoBulkAll elems + uptoBulkAll spare + 1
  | .agg parts => uptoBulkAll parts + 1
  | .iface _ d => uptoBulk d + 1
  | .map entries => uptoBulkEntries entries + 1
  | .held _ => 1
def uptoBulkAll {H : Type} : List (DataW H) → Nat
  | [] => 0
  | d :: r => uptoBulk d + uptoBulkAll r
def uptoBulkEntries {H : Type} : List (Lit × DataW H) → Nat
  | [] => 0
  | x :: r => uptoBulkEntry x + uptoBulkEntries r
def uptoBulkEntry {H : Type} : Lit × DataW H → Nat
  | (.string bytes, d) => bytes.length + uptoBulk d + 1
  | (_, d) => uptoBulk d + 1
 end
def uptoSmall : (H : Type) → List (DataW H) → Bool := fun _ ds => decide (uptoBulkAll ds ≤ 1048576)
def OpenSpec.upto (s : _root_.Go.ChangeSpec) : _root_.Go.OpenSpec := { _root_.Go.OpenSpec.ofChange s with cond := some uptoSmall }

/-- 'laws.FnExactWordsOf', WHERE WHAT IT READS IS OF BULK AT MOST 1048576: true; the input reads as it did. -/
def fnExactWordsOfUptoRow : OpenClaim := { program := "ytaalpchdahmgaaadoor", sum := "88106493c89b589775a60c76a31baec2fe404c7044a2e518ff95e7cc2edde094", func := "loop.example/g01260/laws.FnExactWordsOf", spec := "fnExactWordsOf", named := ["internal/strconv.uint64pow10", "math/bits.deBruijn32tab", "math/bits.deBruijn64tab"], plainKeys := false, apart := false, laid := [("math/bits.deBruijn32tab", laid_math_bits_deBruijn32tab), ("math/bits.deBruijn64tab", laid_math_bits_deBruijn64tab), ("internal/strconv.uint64pow10", laid_internal_strconv_uint64pow10)], narrowed := true }
def FnExactWordsOfUptoSaid : Prop := fnExactWordsOfUptoRow.holds Tryd.pinned (OpenSpec.upto fnExactWordsOfSpec)

/-- 'laws.FnExactFractionText', WHERE WHAT IT READS IS OF BULK AT MOST 1048576: true; the input reads as it did. -/
def fnExactFractionTextUptoRow : OpenClaim := { program := "ytaalpchdahmgaaadoor", sum := "88106493c89b589775a60c76a31baec2fe404c7044a2e518ff95e7cc2edde094", func := "loop.example/g01260/laws.FnExactFractionText", spec := "fnExactFractionText", recurses := true, named := ["internal/strconv.uint64pow10", "math/bits.deBruijn32tab", "math/bits.deBruijn64tab"], plainKeys := false, apart := false, laid := [("math/bits.deBruijn32tab", laid_math_bits_deBruijn32tab), ("math/bits.deBruijn64tab", laid_math_bits_deBruijn64tab), ("internal/strconv.uint64pow10", laid_internal_strconv_uint64pow10)], narrowed := true }
def FnExactFractionTextUptoSaid : Prop := fnExactFractionTextUptoRow.holds Tryd.pinned (OpenSpec.upto fnExactFractionTextSpec)

/-- 'laws.FnExactUnitSeries', WHERE WHAT IT READS IS OF BULK AT MOST 1048576: true; the input reads as it did. -/
def fnExactUnitSeriesUptoRow : OpenClaim := { program := "ytaalpchdahmgaaadoor", sum := "88106493c89b589775a60c76a31baec2fe404c7044a2e518ff95e7cc2edde094", func := "loop.example/g01260/laws.FnExactUnitSeries", spec := "fnExactUnitSeries", named := ["internal/strconv.uint64pow10", "math/bits.deBruijn32tab", "math/bits.deBruijn64tab"], plainKeys := false, apart := false, laid := [("math/bits.deBruijn32tab", laid_math_bits_deBruijn32tab), ("math/bits.deBruijn64tab", laid_math_bits_deBruijn64tab), ("internal/strconv.uint64pow10", laid_internal_strconv_uint64pow10)], narrowed := true }
def FnExactUnitSeriesUptoSaid : Prop := fnExactUnitSeriesUptoRow.holds Tryd.pinned (OpenSpec.upto fnExactUnitSeriesSpec)

/-- 'laws.FnExactMultiplySeries', WHERE WHAT IT READS IS OF BULK AT MOST 1048576: true; the input reads as it did. -/
def fnExactMultiplySeriesUptoRow : OpenClaim := { program := "ytaalpchdahmgaaadoor", sum := "88106493c89b589775a60c76a31baec2fe404c7044a2e518ff95e7cc2edde094", func := "loop.example/g01260/laws.FnExactMultiplySeries", spec := "fnExactMultiplySeries", inPlace := ["internal/bytealg.abigen_runtime_cmpstring"], unfollowed := true, recurses := true, named := ["internal/strconv.uint64pow10", "math/bits.deBruijn32tab", "math/bits.deBruijn64tab"], plainKeys := false, apart := false, laid := [("math/bits.deBruijn32tab", laid_math_bits_deBruijn32tab), ("math/bits.deBruijn64tab", laid_math_bits_deBruijn64tab), ("internal/strconv.uint64pow10", laid_internal_strconv_uint64pow10)], narrowed := true }
def FnExactMultiplySeriesUptoSaid : Prop := fnExactMultiplySeriesUptoRow.holds Tryd.pinned (OpenSpec.upto fnExactMultiplySeriesSpec)

/-- 'laws.FnExactReversalOf', WHERE WHAT IT READS IS OF BULK AT MOST 1048576: true; the input reads as it did. -/
def fnExactReversalOfUptoRow : OpenClaim := { program := "ytaalpchdahmgaaadoor", sum := "88106493c89b589775a60c76a31baec2fe404c7044a2e518ff95e7cc2edde094", func := "loop.example/g01260/laws.FnExactReversalOf", spec := "fnExactReversalOf", inPlace := ["internal/bytealg.abigen_runtime_cmpstring"], named := ["internal/strconv.uint64pow10", "math/bits.deBruijn32tab", "math/bits.deBruijn64tab"], plainKeys := false, apart := false, laid := [("math/bits.deBruijn32tab", laid_math_bits_deBruijn32tab), ("math/bits.deBruijn64tab", laid_math_bits_deBruijn64tab), ("internal/strconv.uint64pow10", laid_internal_strconv_uint64pow10)], narrowed := true }
def FnExactReversalOfUptoSaid : Prop := fnExactReversalOfUptoRow.holds Tryd.pinned (OpenSpec.upto fnExactReversalOfSpec)

/-- 'laws.FnExactAntipodeOf', WHERE WHAT IT READS IS OF BULK AT MOST 1048576: true; the input reads as it did. -/
def fnExactAntipodeOfUptoRow : OpenClaim := { program := "ytaalpchdahmgaaadoor", sum := "88106493c89b589775a60c76a31baec2fe404c7044a2e518ff95e7cc2edde094", func := "loop.example/g01260/laws.FnExactAntipodeOf", spec := "fnExactAntipodeOf", inPlace := ["internal/bytealg.abigen_runtime_cmpstring"], named := ["internal/strconv.uint64pow10", "math/bits.deBruijn32tab", "math/bits.deBruijn64tab"], plainKeys := false, apart := false, laid := [("math/bits.deBruijn32tab", laid_math_bits_deBruijn32tab), ("math/bits.deBruijn64tab", laid_math_bits_deBruijn64tab), ("internal/strconv.uint64pow10", laid_internal_strconv_uint64pow10)], narrowed := true }
def FnExactAntipodeOfUptoSaid : Prop := fnExactAntipodeOfUptoRow.holds Tryd.pinned (OpenSpec.upto fnExactAntipodeOfSpec)

/-- 'laws.FnExactShuffleWords', WHERE WHAT IT READS IS OF BULK AT MOST 1048576: true; the input reads as it did. -/
def fnExactShuffleWordsUptoRow : OpenClaim := { program := "ytaalpchdahmgaaadoor", sum := "88106493c89b589775a60c76a31baec2fe404c7044a2e518ff95e7cc2edde094", func := "loop.example/g01260/laws.FnExactShuffleWords", spec := "fnExactShuffleWords", unfollowed := true, recurses := true, named := ["internal/strconv.uint64pow10", "math/bits.deBruijn32tab", "math/bits.deBruijn64tab"], plainKeys := false, apart := false, laid := [("math/bits.deBruijn32tab", laid_math_bits_deBruijn32tab), ("math/bits.deBruijn64tab", laid_math_bits_deBruijn64tab), ("internal/strconv.uint64pow10", laid_internal_strconv_uint64pow10)], narrowed := true }
def FnExactShuffleWordsUptoSaid : Prop := fnExactShuffleWordsUptoRow.holds Tryd.pinned (OpenSpec.upto fnExactShuffleWordsSpec)

/-- 'laws.FnExactShufflePower', WHERE WHAT IT READS IS OF BULK AT MOST 1048576: true; the input reads as it did. -/
def fnExactShufflePowerUptoRow : OpenClaim := { program := "ytaalpchdahmgaaadoor", sum := "88106493c89b589775a60c76a31baec2fe404c7044a2e518ff95e7cc2edde094", func := "loop.example/g01260/laws.FnExactShufflePower", spec := "fnExactShufflePower", inPlace := ["internal/bytealg.abigen_runtime_cmpstring"], unfollowed := true, recurses := true, named := ["internal/strconv.uint64pow10", "math/bits.deBruijn32tab", "math/bits.deBruijn64tab"], plainKeys := false, apart := false, laid := [("math/bits.deBruijn32tab", laid_math_bits_deBruijn32tab), ("math/bits.deBruijn64tab", laid_math_bits_deBruijn64tab), ("internal/strconv.uint64pow10", laid_internal_strconv_uint64pow10)], narrowed := true }
def FnExactShufflePowerUptoSaid : Prop := fnExactShufflePowerUptoRow.holds Tryd.pinned (OpenSpec.upto fnExactShufflePowerSpec)

/-- 'laws.FnExactValueAtShuffle', WHERE WHAT IT READS IS OF BULK AT MOST 1048576: true; the input reads as it did. -/
def fnExactValueAtShuffleUptoRow : OpenClaim := { program := "ytaalpchdahmgaaadoor", sum := "88106493c89b589775a60c76a31baec2fe404c7044a2e518ff95e7cc2edde094", func := "loop.example/g01260/laws.FnExactValueAtShuffle", spec := "fnExactValueAtShuffle", inPlace := ["internal/bytealg.abigen_runtime_cmpstring"], unfollowed := true, recurses := true, named := ["internal/strconv.uint64pow10", "math/bits.deBruijn32tab", "math/bits.deBruijn64tab"], plainKeys := false, apart := false, laid := [("math/bits.deBruijn32tab", laid_math_bits_deBruijn32tab), ("math/bits.deBruijn64tab", laid_math_bits_deBruijn64tab), ("internal/strconv.uint64pow10", laid_internal_strconv_uint64pow10)], narrowed := true }
def FnExactValueAtShuffleUptoSaid : Prop := fnExactValueAtShuffleUptoRow.holds Tryd.pinned (OpenSpec.upto fnExactValueAtShuffleSpec)

/-- 'laws.FnExactIsGroupLike', WHERE WHAT IT READS IS OF BULK AT MOST 1048576: true; the input reads as it did. -/
def fnExactIsGroupLikeUptoRow : OpenClaim := { program := "ytaalpchdahmgaaadoor", sum := "88106493c89b589775a60c76a31baec2fe404c7044a2e518ff95e7cc2edde094", func := "loop.example/g01260/laws.FnExactIsGroupLike", spec := "fnExactIsGroupLike", inPlace := ["internal/bytealg.abigen_runtime_cmpstring"], unfollowed := true, recurses := true, named := ["internal/strconv.uint64pow10", "math/bits.deBruijn32tab", "math/bits.deBruijn64tab"], plainKeys := false, apart := false, laid := [("math/bits.deBruijn32tab", laid_math_bits_deBruijn32tab), ("math/bits.deBruijn64tab", laid_math_bits_deBruijn64tab), ("internal/strconv.uint64pow10", laid_internal_strconv_uint64pow10)], narrowed := true }
def FnExactIsGroupLikeUptoSaid : Prop := fnExactIsGroupLikeUptoRow.holds Tryd.pinned (OpenSpec.upto fnExactIsGroupLikeSpec)

/-- 'laws.FnExactIsLieSeries', WHERE WHAT IT READS IS OF BULK AT MOST 1048576: true; the input reads as it did. -/
def fnExactIsLieSeriesUptoRow : OpenClaim := { program := "ytaalpchdahmgaaadoor", sum := "88106493c89b589775a60c76a31baec2fe404c7044a2e518ff95e7cc2edde094", func := "loop.example/g01260/laws.FnExactIsLieSeries", spec := "fnExactIsLieSeries", inPlace := ["internal/bytealg.abigen_runtime_cmpstring"], unfollowed := true, recurses := true, named := ["internal/strconv.uint64pow10", "math/bits.deBruijn32tab", "math/bits.deBruijn64tab"], plainKeys := false, apart := false, laid := [("math/bits.deBruijn32tab", laid_math_bits_deBruijn32tab), ("math/bits.deBruijn64tab", laid_math_bits_deBruijn64tab), ("internal/strconv.uint64pow10", laid_internal_strconv_uint64pow10)], narrowed := true }
def FnExactIsLieSeriesUptoSaid : Prop := fnExactIsLieSeriesUptoRow.holds Tryd.pinned (OpenSpec.upto fnExactIsLieSeriesSpec)

/-- 'laws.FnWordNumbers', WHERE WHAT IT READS IS OF BULK AT MOST 1048576: true; the input reads as it did. -/
def fnWordNumbersUptoRow : OpenClaim := { program := "ytaalpchdahmgaaadoor", sum := "88106493c89b589775a60c76a31baec2fe404c7044a2e518ff95e7cc2edde094", func := "loop.example/g01260/laws.FnWordNumbers", spec := "fnWordNumbers", named := ["internal/strconv.uint64pow10", "math/bits.deBruijn32tab", "math/bits.deBruijn64tab"], plainKeys := false, apart := false, laid := [("math/bits.deBruijn32tab", laid_math_bits_deBruijn32tab), ("math/bits.deBruijn64tab", laid_math_bits_deBruijn64tab), ("internal/strconv.uint64pow10", laid_internal_strconv_uint64pow10)], narrowed := true }
def FnWordNumbersUptoSaid : Prop := fnWordNumbersUptoRow.holds Tryd.pinned (OpenSpec.upto fnWordNumbersSpec)

end Rows
end Go.Proofs.YtaalpchdahmgaaaDoor
