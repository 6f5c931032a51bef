/-
  NARROWER THAN 'FOR EVERY INPUT', by the rows' own cells (each row's printed sentence says how): FnFractions: laid · FnWordNumbers: laid · FnExactWordsOf: laid · FnExactWordOfNumber: laid · FnExactLetterSeries: laid · FnExactFractionText: laid · FnExactParseFraction: laid · FnExactSeriesText: laid · FnExactParseSeries: laid · FnExactUnitSeries: laid · FnExactMultiplySeries: laid · FnExactPowerSeries: laid · FnExactCommutatorOf: laid · FnExactReversalOf: laid · FnExactAntipodeOf: laid.
  DERIVED. THE GIVEN ROWS OF THIS SEAT. 15 by the template 'for every input the law returns true; each argument reads behind the call as it read before'; 0 by the template 'total and deterministic' (their statements: YtdnojljhcpcheaaDoorTotals.lean).
  GIVEN WITH THE SEED: the statements are not yours to turn. If you find one false, say at which input.
  Laid BY PROGRAM, IN A SANDBOX (cutbox-rows.mjs): the forced cells as the released guide's own fill.sh prints them over the translation 8679a4dc6d2a597d… (all of the seat's roots in one cut). By AI agents, Wed Nov 11 2026. No macro, syntax, notation, axiom, sorry.
-/
import Derived.Test.YtdnojljhcpcheaaDoorChecked
import GoSem.PinnedTables
import GoSem.Claim
import GoSem.ClaimJoined
import GoSem.ClaimMapViews
import Derived.JoinedTies
import Derived.KernelRfl
namespace Go.Proofs.YtdnojljhcpcheaaDoor
/- THE CELL 'sum', in the pinned program and in every row, IS THE sha256 OF THE DUMP (.gsa) THAT YtdnojljhcpcheaaDoorProg.lean LOADS. Nothing in Lean hashes anything: it is a label: what it is worth is what the hold of that sum in a sandbox is worth. -/
noncomputable def Tryd.pinned : Pinned := { name := "ytdnojljhcpcheaadoor", sum := "8679a4dc6d2a597d40dad5ffc402f56740873c24b2db45906233f129ba356064", checked := Tryd.checked }
namespace Rows
def none {H : Type} : Left H := { results := [], args := [] }

/- WHAT THE LISTED PACKAGE-LEVEL VARIABLES READ AS WHEN THE CALL BEGINS. Each datum BY PROGRAM (the guide's laid-datum.mjs) off the statement by which the dump's own 'gosem.cut.vars' lays the variable. In a bare row this is a premise. The card (YtdnojljhcpcheaaDoorCards.lean) ties it to the program's text. -/
def laid_math_bits_deBruijn32tab {H : Type} : DataW H := .agg [.lit (.int .u8 0), .lit (.int .u8 1), .lit (.int .u8 28), .lit (.int .u8 2), .lit (.int .u8 29), .lit (.int .u8 14), .lit (.int .u8 24), .lit (.int .u8 3), .lit (.int .u8 30), .lit (.int .u8 22), .lit (.int .u8 20), .lit (.int .u8 15), .lit (.int .u8 25), .lit (.int .u8 17), .lit (.int .u8 4), .lit (.int .u8 8), .lit (.int .u8 31), .lit (.int .u8 27), .lit (.int .u8 13), .lit (.int .u8 23), .lit (.int .u8 21), .lit (.int .u8 19), .lit (.int .u8 16), .lit (.int .u8 7), .lit (.int .u8 26), .lit (.int .u8 12), .lit (.int .u8 18), .lit (.int .u8 6), .lit (.int .u8 11), .lit (.int .u8 5), .lit (.int .u8 10), .lit (.int .u8 9)]
def laid_math_bits_deBruijn64tab {H : Type} : DataW H := .agg [.lit (.int .u8 0), .lit (.int .u8 1), .lit (.int .u8 56), .lit (.int .u8 2), .lit (.int .u8 57), .lit (.int .u8 49), .lit (.int .u8 28), .lit (.int .u8 3), .lit (.int .u8 61), .lit (.int .u8 58), .lit (.int .u8 42), .lit (.int .u8 50), .lit (.int .u8 38), .lit (.int .u8 29), .lit (.int .u8 17), .lit (.int .u8 4), .lit (.int .u8 62), .lit (.int .u8 47), .lit (.int .u8 59), .lit (.int .u8 36), .lit (.int .u8 45), .lit (.int .u8 43), .lit (.int .u8 51), .lit (.int .u8 22), .lit (.int .u8 53), .lit (.int .u8 39), .lit (.int .u8 33), .lit (.int .u8 30), .lit (.int .u8 24), .lit (.int .u8 18), .lit (.int .u8 12), .lit (.int .u8 5), .lit (.int .u8 63), .lit (.int .u8 55), .lit (.int .u8 48), .lit (.int .u8 27), .lit (.int .u8 60), .lit (.int .u8 41), .lit (.int .u8 37), .lit (.int .u8 16), .lit (.int .u8 46), .lit (.int .u8 35), .lit (.int .u8 44), .lit (.int .u8 21), .lit (.int .u8 52), .lit (.int .u8 32), .lit (.int .u8 23), .lit (.int .u8 11), .lit (.int .u8 54), .lit (.int .u8 26), .lit (.int .u8 40), .lit (.int .u8 15), .lit (.int .u8 34), .lit (.int .u8 20), .lit (.int .u8 31), .lit (.int .u8 10), .lit (.int .u8 25), .lit (.int .u8 14), .lit (.int .u8 19), .lit (.int .u8 9), .lit (.int .u8 13), .lit (.int .u8 8), .lit (.int .u8 7), .lit (.int .u8 6)]
def laid_internal_strconv_uint64pow10 {H : Type} : DataW H := .agg [.lit (.int .u64 1), .lit (.int .u64 10), .lit (.int .u64 100), .lit (.int .u64 1000), .lit (.int .u64 10000), .lit (.int .u64 100000), .lit (.int .u64 1000000), .lit (.int .u64 10000000), .lit (.int .u64 100000000), .lit (.int .u64 1000000000), .lit (.int .u64 10000000000), .lit (.int .u64 100000000000), .lit (.int .u64 1000000000000), .lit (.int .u64 10000000000000), .lit (.int .u64 100000000000000), .lit (.int .u64 1000000000000000), .lit (.int .u64 10000000000000000), .lit (.int .u64 100000000000000000), .lit (.int .u64 1000000000000000000), .lit (.int .u64 10000000000000000000)]
def laid_strconv_ErrRange {H : Type} : DataW H := .iface "*errors.errorString" (.ptr (.agg [.lit (.string [118, 97, 108, 117, 101, 32, 111, 117, 116, 32, 111, 102, 32, 114, 97, 110, 103, 101])]))
def laid_strconv_ErrSyntax {H : Type} : DataW H := .iface "*errors.errorString" (.ptr (.agg [.lit (.string [105, 110, 118, 97, 108, 105, 100, 32, 115, 121, 110, 116, 97, 120])]))
def laid_unicode_utf8_acceptRanges {H : Type} : DataW H := .agg [.agg [.lit (.int .u8 128), .lit (.int .u8 191)], .agg [.lit (.int .u8 160), .lit (.int .u8 191)], .agg [.lit (.int .u8 128), .lit (.int .u8 159)], .agg [.lit (.int .u8 144), .lit (.int .u8 191)], .agg [.lit (.int .u8 128), .lit (.int .u8 143)], .agg [.lit (.int .u8 0), .lit (.int .u8 0)], .agg [.lit (.int .u8 0), .lit (.int .u8 0)], .agg [.lit (.int .u8 0), .lit (.int .u8 0)], .agg [.lit (.int .u8 0), .lit (.int .u8 0)], .agg [.lit (.int .u8 0), .lit (.int .u8 0)], .agg [.lit (.int .u8 0), .lit (.int .u8 0)], .agg [.lit (.int .u8 0), .lit (.int .u8 0)], .agg [.lit (.int .u8 0), .lit (.int .u8 0)], .agg [.lit (.int .u8 0), .lit (.int .u8 0)], .agg [.lit (.int .u8 0), .lit (.int .u8 0)], .agg [.lit (.int .u8 0), .lit (.int .u8 0)]]
/-- One of Go's own tables, pinned by name: the form's constant. -/
def laid_unicode_utf8_first : DataW Unit := Go.Pinned.utf8First

/-- 'laws.FnFractions': WHATEVER THE INPUT: true; the input reads as it did. -/
def fnFractionsSpec : ChangeSpec := { name := "fnFractions", fn := fun _ => fun
  | [d] => { results := [.lit (.bool true)], args := [d] }
  | _ => none }
def fnFractionsRow : OpenClaim := { program := "ytdnojljhcpcheaadoor", sum := "8679a4dc6d2a597d40dad5ffc402f56740873c24b2db45906233f129ba356064", func := "loop.example/g01260/laws.FnFractions", spec := "fnFractions", inPlace := ["internal/bytealg.IndexByteString", "internal/bytealg.IndexString"], recurses := true, named := ["internal/strconv.uint64pow10", "math/bits.deBruijn32tab", "math/bits.deBruijn64tab", "internal/bytealg.MaxLen", "strconv.ErrSyntax", "strconv.ErrRange"], apart := false, laid := [("math/bits.deBruijn32tab", laid_math_bits_deBruijn32tab), ("math/bits.deBruijn64tab", laid_math_bits_deBruijn64tab), ("internal/strconv.uint64pow10", laid_internal_strconv_uint64pow10), ("strconv.ErrRange", laid_strconv_ErrRange), ("strconv.ErrSyntax", laid_strconv_ErrSyntax)] }
def FnFractionsSaid : Prop := fnFractionsRow.holds Tryd.pinned (OpenSpec.ofChange fnFractionsSpec)

/-- ITS FALSE NEIGHBOUR: 'it returns false'. Refute it at one input. -/
def fnFractionsWrong : ChangeSpec := { name := "fnFractions", fn := fun _ => fun
  | [d] => { results := [.lit (.bool false)], args := [d] }
  | _ => none }
def FnFractionsWrongFalsely : Prop := fnFractionsRow.holds Tryd.pinned (OpenSpec.ofChange fnFractionsWrong)

/-- 'laws.FnWordNumbers': WHATEVER THE INPUT: true; the input reads as it did. -/
def fnWordNumbersSpec : ChangeSpec := { name := "fnWordNumbers", fn := fun _ => fun
  | [d] => { results := [.lit (.bool true)], args := [d] }
  | _ => none }
def fnWordNumbersRow : OpenClaim := { program := "ytdnojljhcpcheaadoor", sum := "8679a4dc6d2a597d40dad5ffc402f56740873c24b2db45906233f129ba356064", func := "loop.example/g01260/laws.FnWordNumbers", spec := "fnWordNumbers", named := ["internal/strconv.uint64pow10", "math/bits.deBruijn32tab", "math/bits.deBruijn64tab"], apart := false, laid := [("math/bits.deBruijn32tab", laid_math_bits_deBruijn32tab), ("math/bits.deBruijn64tab", laid_math_bits_deBruijn64tab), ("internal/strconv.uint64pow10", laid_internal_strconv_uint64pow10)] }
def FnWordNumbersSaid : Prop := fnWordNumbersRow.holds Tryd.pinned (OpenSpec.ofChange fnWordNumbersSpec)

/-- ITS FALSE NEIGHBOUR: 'it returns false'. Refute it at one input. -/
def fnWordNumbersWrong : ChangeSpec := { name := "fnWordNumbers", fn := fun _ => fun
  | [d] => { results := [.lit (.bool false)], args := [d] }
  | _ => none }
def FnWordNumbersWrongFalsely : Prop := fnWordNumbersRow.holds Tryd.pinned (OpenSpec.ofChange fnWordNumbersWrong)

/-- 'laws.FnExactWordsOf': WHATEVER THE INPUT: true; the input reads as it did. -/
def fnExactWordsOfSpec : ChangeSpec := { name := "fnExactWordsOf", fn := fun _ => fun
  | [d1, d2] => { results := [.lit (.bool true)], args := [d1, d2] }
  | _ => none }
def fnExactWordsOfRow : OpenClaim := { program := "ytdnojljhcpcheaadoor", sum := "8679a4dc6d2a597d40dad5ffc402f56740873c24b2db45906233f129ba356064", func := "loop.example/g01260/laws.FnExactWordsOf", spec := "fnExactWordsOf", named := ["internal/strconv.uint64pow10", "math/bits.deBruijn32tab", "math/bits.deBruijn64tab"], apart := false, laid := [("math/bits.deBruijn32tab", laid_math_bits_deBruijn32tab), ("math/bits.deBruijn64tab", laid_math_bits_deBruijn64tab), ("internal/strconv.uint64pow10", laid_internal_strconv_uint64pow10)] }
def FnExactWordsOfSaid : Prop := fnExactWordsOfRow.holds Tryd.pinned (OpenSpec.ofChange fnExactWordsOfSpec)

/-- ITS FALSE NEIGHBOUR: 'it returns false'. Refute it at one input. -/
def fnExactWordsOfWrong : ChangeSpec := { name := "fnExactWordsOf", fn := fun _ => fun
  | [d1, d2] => { results := [.lit (.bool false)], args := [d1, d2] }
  | _ => none }
def FnExactWordsOfWrongFalsely : Prop := fnExactWordsOfRow.holds Tryd.pinned (OpenSpec.ofChange fnExactWordsOfWrong)

/-- 'laws.FnExactWordOfNumber': WHATEVER THE INPUT: true; the input reads as it did. -/
def fnExactWordOfNumberSpec : ChangeSpec := { name := "fnExactWordOfNumber", fn := fun _ => fun
  | [d1, d2] => { results := [.lit (.bool true)], args := [d1, d2] }
  | _ => none }
def fnExactWordOfNumberRow : OpenClaim := { program := "ytdnojljhcpcheaadoor", sum := "8679a4dc6d2a597d40dad5ffc402f56740873c24b2db45906233f129ba356064", func := "loop.example/g01260/laws.FnExactWordOfNumber", spec := "fnExactWordOfNumber", named := ["internal/strconv.uint64pow10", "math/bits.deBruijn32tab", "math/bits.deBruijn64tab"], apart := false, laid := [("math/bits.deBruijn32tab", laid_math_bits_deBruijn32tab), ("math/bits.deBruijn64tab", laid_math_bits_deBruijn64tab), ("internal/strconv.uint64pow10", laid_internal_strconv_uint64pow10)] }
def FnExactWordOfNumberSaid : Prop := fnExactWordOfNumberRow.holds Tryd.pinned (OpenSpec.ofChange fnExactWordOfNumberSpec)

/-- ITS FALSE NEIGHBOUR: 'it returns false'. Refute it at one input. -/
def fnExactWordOfNumberWrong : ChangeSpec := { name := "fnExactWordOfNumber", fn := fun _ => fun
  | [d1, d2] => { results := [.lit (.bool false)], args := [d1, d2] }
  | _ => none }
def FnExactWordOfNumberWrongFalsely : Prop := fnExactWordOfNumberRow.holds Tryd.pinned (OpenSpec.ofChange fnExactWordOfNumberWrong)

/-- 'laws.FnExactLetterSeries': WHATEVER THE INPUT: true; the input reads as it did. -/
def fnExactLetterSeriesSpec : ChangeSpec := { name := "fnExactLetterSeries", fn := fun _ => fun
  | [d1, d2, d3] => { results := [.lit (.bool true)], args := [d1, d2, d3] }
  | _ => none }
def fnExactLetterSeriesRow : OpenClaim := { program := "ytdnojljhcpcheaadoor", sum := "8679a4dc6d2a597d40dad5ffc402f56740873c24b2db45906233f129ba356064", func := "loop.example/g01260/laws.FnExactLetterSeries", spec := "fnExactLetterSeries", named := ["internal/strconv.uint64pow10", "math/bits.deBruijn32tab", "math/bits.deBruijn64tab"], apart := false, laid := [("math/bits.deBruijn32tab", laid_math_bits_deBruijn32tab), ("math/bits.deBruijn64tab", laid_math_bits_deBruijn64tab), ("internal/strconv.uint64pow10", laid_internal_strconv_uint64pow10)] }
def FnExactLetterSeriesSaid : Prop := fnExactLetterSeriesRow.holds Tryd.pinned (OpenSpec.ofChange fnExactLetterSeriesSpec)

/-- ITS FALSE NEIGHBOUR: 'it returns false'. Refute it at one input. -/
def fnExactLetterSeriesWrong : ChangeSpec := { name := "fnExactLetterSeries", fn := fun _ => fun
  | [d1, d2, d3] => { results := [.lit (.bool false)], args := [d1, d2, d3] }
  | _ => none }
def FnExactLetterSeriesWrongFalsely : Prop := fnExactLetterSeriesRow.holds Tryd.pinned (OpenSpec.ofChange fnExactLetterSeriesWrong)

/-- 'laws.FnExactFractionText': WHATEVER THE INPUT: true; the input reads as it did. -/
def fnExactFractionTextSpec : ChangeSpec := { name := "fnExactFractionText", fn := fun _ => fun
  | [d] => { results := [.lit (.bool true)], args := [d] }
  | _ => none }
def fnExactFractionTextRow : OpenClaim := { program := "ytdnojljhcpcheaadoor", sum := "8679a4dc6d2a597d40dad5ffc402f56740873c24b2db45906233f129ba356064", func := "loop.example/g01260/laws.FnExactFractionText", spec := "fnExactFractionText", recurses := true, named := ["internal/strconv.uint64pow10", "math/bits.deBruijn32tab", "math/bits.deBruijn64tab"], apart := false, laid := [("math/bits.deBruijn32tab", laid_math_bits_deBruijn32tab), ("math/bits.deBruijn64tab", laid_math_bits_deBruijn64tab), ("internal/strconv.uint64pow10", laid_internal_strconv_uint64pow10)] }
def FnExactFractionTextSaid : Prop := fnExactFractionTextRow.holds Tryd.pinned (OpenSpec.ofChange fnExactFractionTextSpec)

/-- ITS FALSE NEIGHBOUR: 'it returns false'. Refute it at one input. -/
def fnExactFractionTextWrong : ChangeSpec := { name := "fnExactFractionText", fn := fun _ => fun
  | [d] => { results := [.lit (.bool false)], args := [d] }
  | _ => none }
def FnExactFractionTextWrongFalsely : Prop := fnExactFractionTextRow.holds Tryd.pinned (OpenSpec.ofChange fnExactFractionTextWrong)

/-- 'laws.FnExactParseFraction': WHATEVER THE INPUT: true; the input reads as it did. -/
def fnExactParseFractionSpec : ChangeSpec := { name := "fnExactParseFraction", fn := fun _ => fun
  | [d] => { results := [.lit (.bool true)], args := [d] }
  | _ => none }
def fnExactParseFractionRow : OpenClaim := { program := "ytdnojljhcpcheaadoor", sum := "8679a4dc6d2a597d40dad5ffc402f56740873c24b2db45906233f129ba356064", func := "loop.example/g01260/laws.FnExactParseFraction", spec := "fnExactParseFraction", inPlace := ["internal/bytealg.IndexByteString", "internal/bytealg.IndexString"], named := ["internal/bytealg.MaxLen", "strconv.ErrSyntax", "strconv.ErrRange", "internal/strconv.uint64pow10", "math/bits.deBruijn32tab", "math/bits.deBruijn64tab"], apart := false, laid := [("math/bits.deBruijn32tab", laid_math_bits_deBruijn32tab), ("math/bits.deBruijn64tab", laid_math_bits_deBruijn64tab), ("internal/strconv.uint64pow10", laid_internal_strconv_uint64pow10), ("strconv.ErrRange", laid_strconv_ErrRange), ("strconv.ErrSyntax", laid_strconv_ErrSyntax)] }
def FnExactParseFractionSaid : Prop := fnExactParseFractionRow.holds Tryd.pinned (OpenSpec.ofChange fnExactParseFractionSpec)

/-- ITS FALSE NEIGHBOUR: 'it returns false'. Refute it at one input. -/
def fnExactParseFractionWrong : ChangeSpec := { name := "fnExactParseFraction", fn := fun _ => fun
  | [d] => { results := [.lit (.bool false)], args := [d] }
  | _ => none }
def FnExactParseFractionWrongFalsely : Prop := fnExactParseFractionRow.holds Tryd.pinned (OpenSpec.ofChange fnExactParseFractionWrong)

/-- 'laws.FnExactSeriesText': WHATEVER THE INPUT: true; the input reads as it did. -/
def fnExactSeriesTextSpec : ChangeSpec := { name := "fnExactSeriesText", fn := fun _ => fun
  | [d] => { results := [.lit (.bool true)], args := [d] }
  | _ => none }
def fnExactSeriesTextRow : OpenClaim := { program := "ytdnojljhcpcheaadoor", sum := "8679a4dc6d2a597d40dad5ffc402f56740873c24b2db45906233f129ba356064", func := "loop.example/g01260/laws.FnExactSeriesText", spec := "fnExactSeriesText", inPlace := ["internal/bytealg.abigen_runtime_cmpstring", "internal/abi.NoEscape", "internal/bytealg.MakeNoZero"], recurses := true, named := ["internal/strconv.uint64pow10", "math/bits.deBruijn32tab", "math/bits.deBruijn64tab"], apart := false, laid := [("math/bits.deBruijn32tab", laid_math_bits_deBruijn32tab), ("math/bits.deBruijn64tab", laid_math_bits_deBruijn64tab), ("internal/strconv.uint64pow10", laid_internal_strconv_uint64pow10)] }
def FnExactSeriesTextSaid : Prop := fnExactSeriesTextRow.holds Tryd.pinned (OpenSpec.ofChange fnExactSeriesTextSpec)

/-- ITS FALSE NEIGHBOUR: 'it returns false'. Refute it at one input. -/
def fnExactSeriesTextWrong : ChangeSpec := { name := "fnExactSeriesText", fn := fun _ => fun
  | [d] => { results := [.lit (.bool false)], args := [d] }
  | _ => none }
def FnExactSeriesTextWrongFalsely : Prop := fnExactSeriesTextRow.holds Tryd.pinned (OpenSpec.ofChange fnExactSeriesTextWrong)

/-- 'laws.FnExactParseSeries': WHATEVER THE INPUT: true; the input reads as it did. -/
def fnExactParseSeriesSpec : ChangeSpec := { name := "fnExactParseSeries", fn := fun _ => fun
  | [d1, d2, d3] => { results := [.lit (.bool true)], args := [d1, d2, d3] }
  | _ => none }
def fnExactParseSeriesRow : OpenClaim := { program := "ytdnojljhcpcheaadoor", sum := "8679a4dc6d2a597d40dad5ffc402f56740873c24b2db45906233f129ba356064", func := "loop.example/g01260/laws.FnExactParseSeries", spec := "fnExactParseSeries", inPlace := ["internal/bytealg.IndexByteString", "internal/bytealg.IndexString", "internal/bytealg.abigen_runtime_cmpstring"], unfollowed := true, recurses := true, named := ["unicode/utf8.first", "unicode/utf8.acceptRanges", "internal/bytealg.MaxLen", "strconv.ErrSyntax", "strconv.ErrRange", "internal/strconv.uint64pow10", "math/bits.deBruijn32tab", "math/bits.deBruijn64tab"], apart := false, laid := [("math/bits.deBruijn32tab", laid_math_bits_deBruijn32tab), ("math/bits.deBruijn64tab", laid_math_bits_deBruijn64tab), ("internal/strconv.uint64pow10", laid_internal_strconv_uint64pow10), ("unicode/utf8.acceptRanges", laid_unicode_utf8_acceptRanges), ("strconv.ErrRange", laid_strconv_ErrRange), ("strconv.ErrSyntax", laid_strconv_ErrSyntax), ("unicode/utf8.first", laid_unicode_utf8_first)] }
def FnExactParseSeriesSaid : Prop := fnExactParseSeriesRow.holds Tryd.pinned (OpenSpec.ofChange fnExactParseSeriesSpec)

/-- ITS FALSE NEIGHBOUR: 'it returns false'. Refute it at one input. -/
def fnExactParseSeriesWrong : ChangeSpec := { name := "fnExactParseSeries", fn := fun _ => fun
  | [d1, d2, d3] => { results := [.lit (.bool false)], args := [d1, d2, d3] }
  | _ => none }
def FnExactParseSeriesWrongFalsely : Prop := fnExactParseSeriesRow.holds Tryd.pinned (OpenSpec.ofChange fnExactParseSeriesWrong)

/-- 'laws.FnExactUnitSeries': WHATEVER THE INPUT: true; the input reads as it did. -/
def fnExactUnitSeriesSpec : ChangeSpec := { name := "fnExactUnitSeries", fn := fun _ => fun
  | [d1, d2] => { results := [.lit (.bool true)], args := [d1, d2] }
  | _ => none }
def fnExactUnitSeriesRow : OpenClaim := { program := "ytdnojljhcpcheaadoor", sum := "8679a4dc6d2a597d40dad5ffc402f56740873c24b2db45906233f129ba356064", func := "loop.example/g01260/laws.FnExactUnitSeries", spec := "fnExactUnitSeries", named := ["internal/strconv.uint64pow10", "math/bits.deBruijn32tab", "math/bits.deBruijn64tab"], apart := false, laid := [("math/bits.deBruijn32tab", laid_math_bits_deBruijn32tab), ("math/bits.deBruijn64tab", laid_math_bits_deBruijn64tab), ("internal/strconv.uint64pow10", laid_internal_strconv_uint64pow10)] }
def FnExactUnitSeriesSaid : Prop := fnExactUnitSeriesRow.holds Tryd.pinned (OpenSpec.ofChange fnExactUnitSeriesSpec)

/-- ITS FALSE NEIGHBOUR: 'it returns false'. Refute it at one input. -/
def fnExactUnitSeriesWrong : ChangeSpec := { name := "fnExactUnitSeries", fn := fun _ => fun
  | [d1, d2] => { results := [.lit (.bool false)], args := [d1, d2] }
  | _ => none }
def FnExactUnitSeriesWrongFalsely : Prop := fnExactUnitSeriesRow.holds Tryd.pinned (OpenSpec.ofChange fnExactUnitSeriesWrong)

/-- 'laws.FnExactMultiplySeries': WHATEVER THE INPUT: true; the input reads as it did. -/
def fnExactMultiplySeriesSpec : ChangeSpec := { name := "fnExactMultiplySeries", fn := fun _ => fun
  | [d1, d2] => { results := [.lit (.bool true)], args := [d1, d2] }
  | _ => none }
def fnExactMultiplySeriesRow : OpenClaim := { program := "ytdnojljhcpcheaadoor", sum := "8679a4dc6d2a597d40dad5ffc402f56740873c24b2db45906233f129ba356064", func := "loop.example/g01260/laws.FnExactMultiplySeries", spec := "fnExactMultiplySeries", inPlace := ["internal/bytealg.abigen_runtime_cmpstring"], unfollowed := true, recurses := true, named := ["internal/strconv.uint64pow10", "math/bits.deBruijn32tab", "math/bits.deBruijn64tab"], apart := false, laid := [("math/bits.deBruijn32tab", laid_math_bits_deBruijn32tab), ("math/bits.deBruijn64tab", laid_math_bits_deBruijn64tab), ("internal/strconv.uint64pow10", laid_internal_strconv_uint64pow10)] }
def FnExactMultiplySeriesSaid : Prop := fnExactMultiplySeriesRow.holds Tryd.pinned (OpenSpec.ofChange fnExactMultiplySeriesSpec)

/-- ITS FALSE NEIGHBOUR: 'it returns false'. Refute it at one input. -/
def fnExactMultiplySeriesWrong : ChangeSpec := { name := "fnExactMultiplySeries", fn := fun _ => fun
  | [d1, d2] => { results := [.lit (.bool false)], args := [d1, d2] }
  | _ => none }
def FnExactMultiplySeriesWrongFalsely : Prop := fnExactMultiplySeriesRow.holds Tryd.pinned (OpenSpec.ofChange fnExactMultiplySeriesWrong)

/-- 'laws.FnExactPowerSeries': WHATEVER THE INPUT: true; the input reads as it did. -/
def fnExactPowerSeriesSpec : ChangeSpec := { name := "fnExactPowerSeries", fn := fun _ => fun
  | [d1, d2] => { results := [.lit (.bool true)], args := [d1, d2] }
  | _ => none }
def fnExactPowerSeriesRow : OpenClaim := { program := "ytdnojljhcpcheaadoor", sum := "8679a4dc6d2a597d40dad5ffc402f56740873c24b2db45906233f129ba356064", func := "loop.example/g01260/laws.FnExactPowerSeries", spec := "fnExactPowerSeries", inPlace := ["internal/bytealg.abigen_runtime_cmpstring"], unfollowed := true, recurses := true, named := ["internal/strconv.uint64pow10", "math/bits.deBruijn32tab", "math/bits.deBruijn64tab"], apart := false, laid := [("math/bits.deBruijn32tab", laid_math_bits_deBruijn32tab), ("math/bits.deBruijn64tab", laid_math_bits_deBruijn64tab), ("internal/strconv.uint64pow10", laid_internal_strconv_uint64pow10)] }
def FnExactPowerSeriesSaid : Prop := fnExactPowerSeriesRow.holds Tryd.pinned (OpenSpec.ofChange fnExactPowerSeriesSpec)

/-- ITS FALSE NEIGHBOUR: 'it returns false'. Refute it at one input. -/
def fnExactPowerSeriesWrong : ChangeSpec := { name := "fnExactPowerSeries", fn := fun _ => fun
  | [d1, d2] => { results := [.lit (.bool false)], args := [d1, d2] }
  | _ => none }
def FnExactPowerSeriesWrongFalsely : Prop := fnExactPowerSeriesRow.holds Tryd.pinned (OpenSpec.ofChange fnExactPowerSeriesWrong)

/-- 'laws.FnExactCommutatorOf': WHATEVER THE INPUT: true; the input reads as it did. -/
def fnExactCommutatorOfSpec : ChangeSpec := { name := "fnExactCommutatorOf", fn := fun _ => fun
  | [d1, d2] => { results := [.lit (.bool true)], args := [d1, d2] }
  | _ => none }
def fnExactCommutatorOfRow : OpenClaim := { program := "ytdnojljhcpcheaadoor", sum := "8679a4dc6d2a597d40dad5ffc402f56740873c24b2db45906233f129ba356064", func := "loop.example/g01260/laws.FnExactCommutatorOf", spec := "fnExactCommutatorOf", inPlace := ["internal/bytealg.abigen_runtime_cmpstring"], unfollowed := true, recurses := true, named := ["internal/strconv.uint64pow10", "math/bits.deBruijn32tab", "math/bits.deBruijn64tab"], apart := false, laid := [("math/bits.deBruijn32tab", laid_math_bits_deBruijn32tab), ("math/bits.deBruijn64tab", laid_math_bits_deBruijn64tab), ("internal/strconv.uint64pow10", laid_internal_strconv_uint64pow10)] }
def FnExactCommutatorOfSaid : Prop := fnExactCommutatorOfRow.holds Tryd.pinned (OpenSpec.ofChange fnExactCommutatorOfSpec)

/-- ITS FALSE NEIGHBOUR: 'it returns false'. Refute it at one input. -/
def fnExactCommutatorOfWrong : ChangeSpec := { name := "fnExactCommutatorOf", fn := fun _ => fun
  | [d1, d2] => { results := [.lit (.bool false)], args := [d1, d2] }
  | _ => none }
def FnExactCommutatorOfWrongFalsely : Prop := fnExactCommutatorOfRow.holds Tryd.pinned (OpenSpec.ofChange fnExactCommutatorOfWrong)

/-- 'laws.FnExactReversalOf': WHATEVER THE INPUT: true; the input reads as it did. -/
def fnExactReversalOfSpec : ChangeSpec := { name := "fnExactReversalOf", fn := fun _ => fun
  | [d] => { results := [.lit (.bool true)], args := [d] }
  | _ => none }
def fnExactReversalOfRow : OpenClaim := { program := "ytdnojljhcpcheaadoor", sum := "8679a4dc6d2a597d40dad5ffc402f56740873c24b2db45906233f129ba356064", func := "loop.example/g01260/laws.FnExactReversalOf", spec := "fnExactReversalOf", inPlace := ["internal/bytealg.abigen_runtime_cmpstring"], named := ["internal/strconv.uint64pow10", "math/bits.deBruijn32tab", "math/bits.deBruijn64tab"], apart := false, laid := [("math/bits.deBruijn32tab", laid_math_bits_deBruijn32tab), ("math/bits.deBruijn64tab", laid_math_bits_deBruijn64tab), ("internal/strconv.uint64pow10", laid_internal_strconv_uint64pow10)] }
def FnExactReversalOfSaid : Prop := fnExactReversalOfRow.holds Tryd.pinned (OpenSpec.ofChange fnExactReversalOfSpec)

/-- ITS FALSE NEIGHBOUR: 'it returns false'. Refute it at one input. -/
def fnExactReversalOfWrong : ChangeSpec := { name := "fnExactReversalOf", fn := fun _ => fun
  | [d] => { results := [.lit (.bool false)], args := [d] }
  | _ => none }
def FnExactReversalOfWrongFalsely : Prop := fnExactReversalOfRow.holds Tryd.pinned (OpenSpec.ofChange fnExactReversalOfWrong)

/-- 'laws.FnExactAntipodeOf': WHATEVER THE INPUT: true; the input reads as it did. -/
def fnExactAntipodeOfSpec : ChangeSpec := { name := "fnExactAntipodeOf", fn := fun _ => fun
  | [d] => { results := [.lit (.bool true)], args := [d] }
  | _ => none }
def fnExactAntipodeOfRow : OpenClaim := { program := "ytdnojljhcpcheaadoor", sum := "8679a4dc6d2a597d40dad5ffc402f56740873c24b2db45906233f129ba356064", func := "loop.example/g01260/laws.FnExactAntipodeOf", spec := "fnExactAntipodeOf", inPlace := ["internal/bytealg.abigen_runtime_cmpstring"], named := ["internal/strconv.uint64pow10", "math/bits.deBruijn32tab", "math/bits.deBruijn64tab"], apart := false, laid := [("math/bits.deBruijn32tab", laid_math_bits_deBruijn32tab), ("math/bits.deBruijn64tab", laid_math_bits_deBruijn64tab), ("internal/strconv.uint64pow10", laid_internal_strconv_uint64pow10)] }
def FnExactAntipodeOfSaid : Prop := fnExactAntipodeOfRow.holds Tryd.pinned (OpenSpec.ofChange fnExactAntipodeOfSpec)

/-- ITS FALSE NEIGHBOUR: 'it returns false'. Refute it at one input. -/
def fnExactAntipodeOfWrong : ChangeSpec := { name := "fnExactAntipodeOf", fn := fun _ => fun
  | [d] => { results := [.lit (.bool false)], args := [d] }
  | _ => none }
def FnExactAntipodeOfWrongFalsely : Prop := fnExactAntipodeOfRow.holds Tryd.pinned (OpenSpec.ofChange fnExactAntipodeOfWrong)

/- THE SECOND FORM. 'bulk': how many values and letters a reading holds, each counted each time it is reached (what is shared counts as often as it is met; a slice's spare places count too). A statement '..UptoSaid' is the law's where the arguments, and the package variables that the reading takes, are together of bulk at most 1048576: NARROWER than '..Said'. Prove '..Said' where nothing that the law and all that it calls make is longer than what came in: it says more and counts as full. Else prove '..UptoSaid'. A law counts once. -/
mutual
def uptoBulk {H : Type} : DataW H → Nat
  | .lit (.string bytes) => bytes.length + 1
  | .lit _ => 1
  | .nil => 1
  | .ptr d => uptoBulk d + 1
  | .slice elems spare => uptoBulkAll elems + uptoBulkAll spare + 1
  | .agg parts => uptoBulkAll parts + 1
  | .iface _ d => uptoBulk d + 1
  | .map entries => uptoBulkEntries entries + 1
  | .held _ => 1
def uptoBulkAll {H : Type} : List (DataW H) → Nat
  | [] => 0
  | d :: r => uptoBulk d + uptoBulkAll r
def uptoBulkEntries {H : Type} : List (Lit × DataW H) → Nat
  | [] => 0
  | x :: r => uptoBulkEntry x + uptoBulkEntries r
def uptoBulkEntry {H : Type} : Lit × DataW H → Nat
  | (.string bytes, d) => bytes.length + uptoBulk d + 1
  | (_, d) => uptoBulk d + 1
 end
def uptoSmall : (H : Type) → List (DataW H) → Bool := fun _ ds => decide (uptoBulkAll ds ≤ 1048576)
def OpenSpec.upto (s : _root_.Go.ChangeSpec) : _root_.Go.OpenSpec := { _root_.Go.OpenSpec.ofChange s with cond := some uptoSmall }

/-- 'laws.FnFractions', WHERE WHAT IT READS IS OF BULK AT MOST 1048576: true; the input reads as it did. -/
def fnFractionsUptoRow : OpenClaim := { program := "ytdnojljhcpcheaadoor", sum := "8679a4dc6d2a597d40dad5ffc402f56740873c24b2db45906233f129ba356064", func := "loop.example/g01260/laws.FnFractions", spec := "fnFractions", inPlace := ["internal/bytealg.IndexByteString", "internal/bytealg.IndexString"], recurses := true, named := ["internal/strconv.uint64pow10", "math/bits.deBruijn32tab", "math/bits.deBruijn64tab", "internal/bytealg.MaxLen", "strconv.ErrSyntax", "strconv.ErrRange"], apart := false, laid := [("math/bits.deBruijn32tab", laid_math_bits_deBruijn32tab), ("math/bits.deBruijn64tab", laid_math_bits_deBruijn64tab), ("internal/strconv.uint64pow10", laid_internal_strconv_uint64pow10), ("strconv.ErrRange", laid_strconv_ErrRange), ("strconv.ErrSyntax", laid_strconv_ErrSyntax)], narrowed := true }
def FnFractionsUptoSaid : Prop := fnFractionsUptoRow.holds Tryd.pinned (OpenSpec.upto fnFractionsSpec)

/-- 'laws.FnWordNumbers', WHERE WHAT IT READS IS OF BULK AT MOST 1048576: true; the input reads as it did. -/
def fnWordNumbersUptoRow : OpenClaim := { program := "ytdnojljhcpcheaadoor", sum := "8679a4dc6d2a597d40dad5ffc402f56740873c24b2db45906233f129ba356064", func := "loop.example/g01260/laws.FnWordNumbers", spec := "fnWordNumbers", named := ["internal/strconv.uint64pow10", "math/bits.deBruijn32tab", "math/bits.deBruijn64tab"], apart := false, laid := [("math/bits.deBruijn32tab", laid_math_bits_deBruijn32tab), ("math/bits.deBruijn64tab", laid_math_bits_deBruijn64tab), ("internal/strconv.uint64pow10", laid_internal_strconv_uint64pow10)], narrowed := true }
def FnWordNumbersUptoSaid : Prop := fnWordNumbersUptoRow.holds Tryd.pinned (OpenSpec.upto fnWordNumbersSpec)

/-- 'laws.FnExactWordsOf', WHERE WHAT IT READS IS OF BULK AT MOST 1048576: true; the input reads as it did. -/
def fnExactWordsOfUptoRow : OpenClaim := { program := "ytdnojljhcpcheaadoor", sum := "8679a4dc6d2a597d40dad5ffc402f56740873c24b2db45906233f129ba356064", func := "loop.example/g01260/laws.FnExactWordsOf", spec := "fnExactWordsOf", named := ["internal/strconv.uint64pow10", "math/bits.deBruijn32tab", "math/bits.deBruijn64tab"], apart := false, laid := [("math/bits.deBruijn32tab", laid_math_bits_deBruijn32tab), ("math/bits.deBruijn64tab", laid_math_bits_deBruijn64tab), ("internal/strconv.uint64pow10", laid_internal_strconv_uint64pow10)], narrowed := true }
def FnExactWordsOfUptoSaid : Prop := fnExactWordsOfUptoRow.holds Tryd.pinned (OpenSpec.upto fnExactWordsOfSpec)

/-- 'laws.FnExactWordOfNumber', WHERE WHAT IT READS IS OF BULK AT MOST 1048576: true; the input reads as it did. -/
def fnExactWordOfNumberUptoRow : OpenClaim := { program := "ytdnojljhcpcheaadoor", sum := "8679a4dc6d2a597d40dad5ffc402f56740873c24b2db45906233f129ba356064", func := "loop.example/g01260/laws.FnExactWordOfNumber", spec := "fnExactWordOfNumber", named := ["internal/strconv.uint64pow10", "math/bits.deBruijn32tab", "math/bits.deBruijn64tab"], apart := false, laid := [("math/bits.deBruijn32tab", laid_math_bits_deBruijn32tab), ("math/bits.deBruijn64tab", laid_math_bits_deBruijn64tab), ("internal/strconv.uint64pow10", laid_internal_strconv_uint64pow10)], narrowed := true }
def FnExactWordOfNumberUptoSaid : Prop := fnExactWordOfNumberUptoRow.holds Tryd.pinned (OpenSpec.upto fnExactWordOfNumberSpec)

/-- 'laws.FnExactLetterSeries', WHERE WHAT IT READS IS OF BULK AT MOST 1048576: true; the input reads as it did. -/
def fnExactLetterSeriesUptoRow : OpenClaim := { program := "ytdnojljhcpcheaadoor", sum := "8679a4dc6d2a597d40dad5ffc402f56740873c24b2db45906233f129ba356064", func := "loop.example/g01260/laws.FnExactLetterSeries", spec := "fnExactLetterSeries", named := ["internal/strconv.uint64pow10", "math/bits.deBruijn32tab", "math/bits.deBruijn64tab"], apart := false, laid := [("math/bits.deBruijn32tab", laid_math_bits_deBruijn32tab), ("math/bits.deBruijn64tab", laid_math_bits_deBruijn64tab), ("internal/strconv.uint64pow10", laid_internal_strconv_uint64pow10)], narrowed := true }
def FnExactLetterSeriesUptoSaid : Prop := fnExactLetterSeriesUptoRow.holds Tryd.pinned (OpenSpec.upto fnExactLetterSeriesSpec)

/-- 'laws.FnExactFractionText', WHERE WHAT IT READS IS OF BULK AT MOST 1048576: true; the input reads as it did. -/
def fnExactFractionTextUptoRow : OpenClaim := { program := "ytdnojljhcpcheaadoor", sum := "8679a4dc6d2a597d40dad5ffc402f56740873c24b2db45906233f129ba356064", func := "loop.example/g01260/laws.FnExactFractionText", spec := "fnExactFractionText", recurses := true, named := ["internal/strconv.uint64pow10", "math/bits.deBruijn32tab", "math/bits.deBruijn64tab"], apart := false, laid := [("math/bits.deBruijn32tab", laid_math_bits_deBruijn32tab), ("math/bits.deBruijn64tab", laid_math_bits_deBruijn64tab), ("internal/strconv.uint64pow10", laid_internal_strconv_uint64pow10)], narrowed := true }
def FnExactFractionTextUptoSaid : Prop := fnExactFractionTextUptoRow.holds Tryd.pinned (OpenSpec.upto fnExactFractionTextSpec)

/-- 'laws.FnExactParseFraction', WHERE WHAT IT READS IS OF BULK AT MOST 1048576: true; the input reads as it did. -/
def fnExactParseFractionUptoRow : OpenClaim := { program := "ytdnojljhcpcheaadoor", sum := "8679a4dc6d2a597d40dad5ffc402f56740873c24b2db45906233f129ba356064", func := "loop.example/g01260/laws.FnExactParseFraction", spec := "fnExactParseFraction", inPlace := ["internal/bytealg.IndexByteString", "internal/bytealg.IndexString"], named := ["internal/bytealg.MaxLen", "strconv.ErrSyntax", "strconv.ErrRange", "internal/strconv.uint64pow10", "math/bits.deBruijn32tab", "math/bits.deBruijn64tab"], apart := false, laid := [("math/bits.deBruijn32tab", laid_math_bits_deBruijn32tab), ("math/bits.deBruijn64tab", laid_math_bits_deBruijn64tab), ("internal/strconv.uint64pow10", laid_internal_strconv_uint64pow10), ("strconv.ErrRange", laid_strconv_ErrRange), ("strconv.ErrSyntax", laid_strconv_ErrSyntax)], narrowed := true }
def FnExactParseFractionUptoSaid : Prop := fnExactParseFractionUptoRow.holds Tryd.pinned (OpenSpec.upto fnExactParseFractionSpec)

/-- 'laws.FnExactSeriesText', WHERE WHAT IT READS IS OF BULK AT MOST 1048576: true; the input reads as it did. -/
def fnExactSeriesTextUptoRow : OpenClaim := { program := "ytdnojljhcpcheaadoor", sum := "8679a4dc6d2a597d40dad5ffc402f56740873c24b2db45906233f129ba356064", func := "loop.example/g01260/laws.FnExactSeriesText", spec := "fnExactSeriesText", inPlace := ["internal/bytealg.abigen_runtime_cmpstring", "internal/abi.NoEscape", "internal/bytealg.MakeNoZero"], recurses := true, named := ["internal/strconv.uint64pow10", "math/bits.deBruijn32tab", "math/bits.deBruijn64tab"], apart := false, laid := [("math/bits.deBruijn32tab", laid_math_bits_deBruijn32tab), ("math/bits.deBruijn64tab", laid_math_bits_deBruijn64tab), ("internal/strconv.uint64pow10", laid_internal_strconv_uint64pow10)], narrowed := true }
def FnExactSeriesTextUptoSaid : Prop := fnExactSeriesTextUptoRow.holds Tryd.pinned (OpenSpec.upto fnExactSeriesTextSpec)

/-- 'laws.FnExactParseSeries', WHERE WHAT IT READS IS OF BULK AT MOST 1048576: true; the input reads as it did. -/
def fnExactParseSeriesUptoRow : OpenClaim := { program := "ytdnojljhcpcheaadoor", sum := "8679a4dc6d2a597d40dad5ffc402f56740873c24b2db45906233f129ba356064", func := "loop.example/g01260/laws.FnExactParseSeries", spec := "fnExactParseSeries", inPlace := ["internal/bytealg.IndexByteString", "internal/bytealg.IndexString", "internal/bytealg.abigen_runtime_cmpstring"], unfollowed := true, recurses := true, named := ["unicode/utf8.first", "unicode/utf8.acceptRanges", "internal/bytealg.MaxLen", "strconv.ErrSyntax", "strconv.ErrRange", "internal/strconv.uint64pow10", "math/bits.deBruijn32tab", "math/bits.deBruijn64tab"], apart := false, laid := [("math/bits.deBruijn32tab", laid_math_bits_deBruijn32tab), ("math/bits.deBruijn64tab", laid_math_bits_deBruijn64tab), ("internal/strconv.uint64pow10", laid_internal_strconv_uint64pow10), ("unicode/utf8.acceptRanges", laid_unicode_utf8_acceptRanges), ("strconv.ErrRange", laid_strconv_ErrRange), ("strconv.ErrSyntax", laid_strconv_ErrSyntax), ("unicode/utf8.first", laid_unicode_utf8_first)], narrowed := true }
def FnExactParseSeriesUptoSaid : Prop := fnExactParseSeriesUptoRow.holds Tryd.pinned (OpenSpec.upto fnExactParseSeriesSpec)

/-- 'laws.FnExactUnitSeries', WHERE WHAT IT READS IS OF BULK AT MOST 1048576: true; the input reads as it did. -/
def fnExactUnitSeriesUptoRow : OpenClaim := { program := "ytdnojljhcpcheaadoor", sum := "8679a4dc6d2a597d40dad5ffc402f56740873c24b2db45906233f129ba356064", func := "loop.example/g01260/laws.FnExactUnitSeries", spec := "fnExactUnitSeries", named := ["internal/strconv.uint64pow10", "math/bits.deBruijn32tab", "math/bits.deBruijn64tab"], apart := false, laid := [("math/bits.deBruijn32tab", laid_math_bits_deBruijn32tab), ("math/bits.deBruijn64tab", laid_math_bits_deBruijn64tab), ("internal/strconv.uint64pow10", laid_internal_strconv_uint64pow10)], narrowed := true }
def FnExactUnitSeriesUptoSaid : Prop := fnExactUnitSeriesUptoRow.holds Tryd.pinned (OpenSpec.upto fnExactUnitSeriesSpec)

/-- 'laws.FnExactMultiplySeries', WHERE WHAT IT READS IS OF BULK AT MOST 1048576: true; the input reads as it did. -/
def fnExactMultiplySeriesUptoRow : OpenClaim := { program := "ytdnojljhcpcheaadoor", sum := "8679a4dc6d2a597d40dad5ffc402f56740873c24b2db45906233f129ba356064", func := "loop.example/g01260/laws.FnExactMultiplySeries", spec := "fnExactMultiplySeries", inPlace := ["internal/bytealg.abigen_runtime_cmpstring"], unfollowed := true, recurses := true, named := ["internal/strconv.uint64pow10", "math/bits.deBruijn32tab", "math/bits.deBruijn64tab"], apart := false, laid := [("math/bits.deBruijn32tab", laid_math_bits_deBruijn32tab), ("math/bits.deBruijn64tab", laid_math_bits_deBruijn64tab), ("internal/strconv.uint64pow10", laid_internal_strconv_uint64pow10)], narrowed := true }
def FnExactMultiplySeriesUptoSaid : Prop := fnExactMultiplySeriesUptoRow.holds Tryd.pinned (OpenSpec.upto fnExactMultiplySeriesSpec)

/-- 'laws.FnExactPowerSeries', WHERE WHAT IT READS IS OF BULK AT MOST 1048576: true; the input reads as it did. -/
def fnExactPowerSeriesUptoRow : OpenClaim := { program := "ytdnojljhcpcheaadoor", sum := "8679a4dc6d2a597d40dad5ffc402f56740873c24b2db45906233f129ba356064", func := "loop.example/g01260/laws.FnExactPowerSeries", spec := "fnExactPowerSeries", inPlace := ["internal/bytealg.abigen_runtime_cmpstring"], unfollowed := true, recurses := true, named := ["internal/strconv.uint64pow10", "math/bits.deBruijn32tab", "math/bits.deBruijn64tab"], apart := false, laid := [("math/bits.deBruijn32tab", laid_math_bits_deBruijn32tab), ("math/bits.deBruijn64tab", laid_math_bits_deBruijn64tab), ("internal/strconv.uint64pow10", laid_internal_strconv_uint64pow10)], narrowed := true }
def FnExactPowerSeriesUptoSaid : Prop := fnExactPowerSeriesUptoRow.holds Tryd.pinned (OpenSpec.upto fnExactPowerSeriesSpec)

/-- 'laws.FnExactCommutatorOf', WHERE WHAT IT READS IS OF BULK AT MOST 1048576: true; the input reads as it did. -/
def fnExactCommutatorOfUptoRow : OpenClaim := { program := "ytdnojljhcpcheaadoor", sum := "8679a4dc6d2a597d40dad5ffc402f56740873c24b2db45906233f129ba356064", func := "loop.example/g01260/laws.FnExactCommutatorOf", spec := "fnExactCommutatorOf", inPlace := ["internal/bytealg.abigen_runtime_cmpstring"], unfollowed := true, recurses := true, named := ["internal/strconv.uint64pow10", "math/bits.deBruijn32tab", "math/bits.deBruijn64tab"], apart := false, laid := [("math/bits.deBruijn32tab", laid_math_bits_deBruijn32tab), ("math/bits.deBruijn64tab", laid_math_bits_deBruijn64tab), ("internal/strconv.uint64pow10", laid_internal_strconv_uint64pow10)], narrowed := true }
def FnExactCommutatorOfUptoSaid : Prop := fnExactCommutatorOfUptoRow.holds Tryd.pinned (OpenSpec.upto fnExactCommutatorOfSpec)

/-- 'laws.FnExactReversalOf', WHERE WHAT IT READS IS OF BULK AT MOST 1048576: true; the input reads as it did. -/
def fnExactReversalOfUptoRow : OpenClaim := { program := "ytdnojljhcpcheaadoor", sum := "8679a4dc6d2a597d40dad5ffc402f56740873c24b2db45906233f129ba356064", func := "loop.example/g01260/laws.FnExactReversalOf", spec := "fnExactReversalOf", inPlace := ["internal/bytealg.abigen_runtime_cmpstring"], named := ["internal/strconv.uint64pow10", "math/bits.deBruijn32tab", "math/bits.deBruijn64tab"], apart := false, laid := [("math/bits.deBruijn32tab", laid_math_bits_deBruijn32tab), ("math/bits.deBruijn64tab", laid_math_bits_deBruijn64tab), ("internal/strconv.uint64pow10", laid_internal_strconv_uint64pow10)], narrowed := true }
def FnExactReversalOfUptoSaid : Prop := fnExactReversalOfUptoRow.holds Tryd.pinned (OpenSpec.upto fnExactReversalOfSpec)

/-- 'laws.FnExactAntipodeOf', WHERE WHAT IT READS IS OF BULK AT MOST 1048576: true; the input reads as it did. -/
def fnExactAntipodeOfUptoRow : OpenClaim := { program := "ytdnojljhcpcheaadoor", sum := "8679a4dc6d2a597d40dad5ffc402f56740873c24b2db45906233f129ba356064", func := "loop.example/g01260/laws.FnExactAntipodeOf", spec := "fnExactAntipodeOf", inPlace := ["internal/bytealg.abigen_runtime_cmpstring"], named := ["internal/strconv.uint64pow10", "math/bits.deBruijn32tab", "math/bits.deBruijn64tab"], apart := false, laid := [("math/bits.deBruijn32tab", laid_math_bits_deBruijn32tab), ("math/bits.deBruijn64tab", laid_math_bits_deBruijn64tab), ("internal/strconv.uint64pow10", laid_internal_strconv_uint64pow10)], narrowed := true }
def FnExactAntipodeOfUptoSaid : Prop := fnExactAntipodeOfUptoRow.holds Tryd.pinned (OpenSpec.upto fnExactAntipodeOfSpec)

end Rows
end Go.Proofs.YtdnojljhcpcheaaDoor
