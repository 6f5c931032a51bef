package tests

import (
	"math"
	"slices"
	"strings"
	"testing"

	"loop.example/g01260/impl"
)

// sumFunctions are both sums at a word.
func sumFunctions(w string) []pathFunction {
	return []pathFunction{
		{"StrictSum at " + w, func(d int64, p path) outcome { return numberOutcome(impl.StrictSum(d, p, w)) }},
		{"WeakSum at " + w, func(d int64, p path) outcome { return numberOutcome(impl.WeakSum(d, p, w)) }},
	}
}

// sumLevelFunctions are those of sequences and a level.
func sumLevelFunctions(n int64) []pathFunction {
	return []pathFunction{
		{"StrictSeries", func(d int64, p path) outcome { return seriesOutcome(impl.StrictSeries(d, n, p)) }},
		{"WeakSeries", func(d int64, p path) outcome { return seriesOutcome(impl.WeakSeries(d, n, p)) }},
		{"SameSums of one twice", func(d int64, p path) outcome { return equalOutcome(impl.SameSums(d, n, p, p)) }},
		{"SameSums, first", func(d int64, p path) outcome { return equalOutcome(impl.SameSums(d, n, p, nil)) }},
		{"SameSums, second", func(d int64, p path) outcome { return equalOutcome(impl.SameSums(d, n, nil, p)) }},
	}
}

// restFunction is WithoutRests.
var restFunction = pathFunction{"WithoutRests", func(d int64, p path) outcome { return pathOutcome(impl.WithoutRests(d, p)) }}

// functionsOfSequences are all of them, with words and levels in their ranges, and out of them.
func functionsOfSequences() []pathFunction {
	list := []pathFunction{restFunction}
	for _, w := range append([]string{"", "0", "1", "2", "00000", "000000", strings.Repeat("0", 1000)}, notWords...) {
		list = append(list, sumFunctions(w)...)
	}
	for _, n := range append([]int64{1, 2, 4, 5}, badLevels...) {
		list = append(list, sumLevelFunctions(n)...)
	}
	return list
}

// checkOutcomes requires an outcome of functions for a path.
func checkOutcomes(t *testing.T, functions []pathFunction, d int64, p path, want outcome) {
	t.Helper()
	for _, f := range functions {
		if got := f.call(d, p); got != want {
			t.Errorf("%s of %v for %d letters: %v, want %v", f.name, p, d, got, want)
		}
	}
}

// What is no sequence is told ahead of words that are too long, and of levels out of range.
func TestFunctionsRefuseWhatIsNoSequence(t *testing.T) {
	functions := functionsOfSequences()
	for _, bad := range notPaths() {
		checkOutcomes(t, functions, bad.letters, bad.path, outcome{impl.ErrInvalid, true})
	}
}

// Texts that are no words are told ahead of their lengths.
func TestSumsAtWhatIsNoWord(t *testing.T) {
	for d := int64(1); d <= impl.MaxLetter; d++ {
		behind := string(rune('0' + d))
		texts := append([]string{behind, "0" + behind, behind + "0", "0000" + behind, "00000" + behind, strings.Repeat("0", 100000) + behind}, notWords...)
		for _, w := range texts {
			for _, p := range samplePaths(d) {
				checkOutcomes(t, sumFunctions(w), d, p, outcome{impl.ErrInvalid, true})
			}
		}
	}
}

func TestSumsAtLongWords(t *testing.T) {
	for d := int64(1); d <= impl.MaxLetter; d++ {
		last := string(rune('0' + d - 1))
		for _, p := range samplePaths(d) {
			for _, w := range []string{"000000", last + "00000", "00000" + last, strings.Repeat(last, 12), strings.Repeat(last, 100000)} {
				checkOutcomes(t, sumFunctions(w), d, p, outcome{impl.ErrRange, true})
			}
			for _, w := range []string{"", "0", last, "0000" + last, last + "0000"} {
				for _, f := range sumFunctions(w) {
					if got := f.call(d, p); got.code != impl.ErrNone {
						t.Errorf("%s of %v: %v", f.name, p, got)
					}
				}
			}
		}
	}
}

// Levels out of range are told ahead of values that do not fit.
func TestLevelsOutOfRangeOfSums(t *testing.T) {
	for d := int64(1); d <= impl.MaxLetter; d++ {
		for _, p := range samplePaths(d) {
			for _, n := range append([]int64{levelsOf(d) + 1}, badLevels...) {
				checkOutcomes(t, sumLevelFunctions(n), d, p, outcome{impl.ErrRange, true})
			}
		}
		for n := int64(1); n <= levelsOf(d); n++ {
			for _, f := range sumLevelFunctions(n) {
				if got := f.call(d, path{flatStep(d, 1)}); got.code != impl.ErrNone {
					t.Errorf("%s(%d) at the level %d: %v", f.name, d, n, got)
				}
			}
		}
	}
}

// A second sequence that is none is told ahead of a level that is out of range, and sums that no series could
// have are no error.
func TestErrorsOfTwoSequences(t *testing.T) {
	good, bad, large := path{{1, 2}}, path{{1}}, repeated(impl.MaxSteps, 100, 100)
	for _, other := range []path{nil, good, bad, large} {
		for _, n := range append([]int64{1, 2, 5}, badLevels...) {
			for _, pair := range [][2]path{{other, bad}, {bad, other}} {
				if got := equalOutcome(impl.SameSums(2, n, pair[0], pair[1])); got != (outcome{impl.ErrInvalid, true}) {
					t.Errorf("SameSums(2, %d, %v, %v): %v", n, pair[0], pair[1], got)
				}
			}
		}
	}
	for n := int64(1); n <= 5; n++ {
		checkSame(t, 2, n, large, large, true)
		checkSame(t, 2, n, large, good, false)
		checkSame(t, 2, n, large, repeated(impl.MaxSteps-1, 100, 100), false)
	}
}

func TestSequencesOfAllLengths(t *testing.T) {
	for d := int64(1); d <= impl.MaxLetter; d++ {
		for _, number := range []int64{0, 1, -1, impl.MaxStep, -impl.MaxStep} {
			for entries := 0; entries <= impl.MaxSteps; entries++ {
				p := repeated(entries, flatStep(d, number)...)
				for _, f := range append(append(sumFunctions("0"), sumLevelFunctions(2)...), restFunction) {
					// Sequences are only compared with others, and need not be the same.
					if got := f.call(d, p); got.code != impl.ErrNone {
						t.Errorf("%s of %v for %d letters: %v", f.name, p, d, got)
					}
				}
			}
		}
	}
}

// listFunction is a function of a list of numbers, with some other arguments.
type listFunction struct {
	name string
	call func(list []int64) outcome
}

// powerFunction is PowerSum with a composition.
func powerFunction(parts ...int64) listFunction {
	return listFunction{"PowerSum", func(list []int64) outcome { return numberOutcome(impl.PowerSum(list, parts)) }}
}

var (
	differencesFunction = listFunction{"DifferencesOf", func(list []int64) outcome { return endOutcome(impl.DifferencesOf(list)) }}
	sumsFunction        = listFunction{"SumsOf", func(list []int64) outcome { return endOutcome(impl.SumsOf(list)) }}
)

// checkLists requires an outcome of functions for a list.
func checkLists(t *testing.T, functions []listFunction, list []int64, want outcome) {
	t.Helper()
	for _, f := range functions {
		if got := f.call(list); got != want {
			t.Errorf("%s of %v: %v, want %v", f.name, list, got, want)
		}
	}
}

// withNumber returns lists of numbers with another one in them, at any place.
func withNumber(number int64, lists ...[]int64) [][]int64 {
	var all [][]int64
	for _, list := range lists {
		for i := range list {
			changed := slices.Clone(list)
			changed[i] = number
			all = append(all, changed)
		}
	}
	return all
}

// badNumbers are too great for lists.
var badNumbers = []int64{impl.MaxStep + 1, -impl.MaxStep - 1, 1000000000000000, math.MaxInt64, math.MinInt64, math.MinInt64 + 1}

// Lists are refused for whatever composition, and ahead of power sums that would be too great.
func TestListsOutOfRange(t *testing.T) {
	functions := []listFunction{
		differencesFunction, sumsFunction, powerFunction(), powerFunction(1), powerFunction(5, 5, 5), powerFunction(1, 1, 1, 1, 1, 1), powerFunction(1, 1, 1, 1, 1, 1, 1),
		powerFunction(0), powerFunction(6),
	}
	longest := slices.Repeat([]int64{100}, impl.MaxSteps)
	lists := [][]int64{append(slices.Clone(longest), 0), make([]int64, impl.MaxSteps+1), make([]int64, 1000)}
	for _, number := range badNumbers {
		lists = append(lists, withNumber(number, []int64{0}, []int64{1, 2, 3}, longest)...)
	}
	for _, list := range lists {
		checkLists(t, functions, list, outcome{impl.ErrRange, true})
	}
}

func TestListsInRange(t *testing.T) {
	for count := 0; count <= impl.MaxSteps; count++ {
		for _, number := range []int64{0, 1, -1, impl.MaxStep, -impl.MaxStep} {
			list := slices.Repeat([]int64{number}, count)
			checkLists(t, []listFunction{sumsFunction}, list, outcome{impl.ErrNone, false})
			checkLists(t, []listFunction{powerFunction()}, list, outcome{impl.ErrNone, false})
			// There are no differences of one number, and none of none.
			if count != 0 {
				checkLists(t, []listFunction{differencesFunction}, list, outcome{impl.ErrNone, count == 1})
			}
			checkLists(t, []listFunction{powerFunction(1), powerFunction(5)}, list, outcome{impl.ErrNone, count == 0 || number == 0})
		}
	}
}

func TestDifferencesOfNoNumbers(t *testing.T) {
	for _, list := range [][]int64{nil, {}, make([]int64, 0, 5)} {
		checkLists(t, []listFunction{differencesFunction}, list, outcome{impl.ErrRange, true})
	}
}

// badParts are no parts of compositions.
var badParts = []int64{0, 6, -1, -5, 7, math.MaxInt64, math.MinInt64}

// notCompositions returns lists that are no compositions with at most as many parts as most tells.
func notCompositions(most int) [][]int64 {
	longer := slices.Repeat([]int64{1}, most+1)
	list := [][]int64{longer, slices.Repeat([]int64{5}, most+1), slices.Repeat([]int64{0}, most+1), slices.Repeat([]int64{1}, 1000)}
	for _, part := range badParts {
		list = append(list, withNumber(part, []int64{1}, []int64{1, 2, 5}, longer[1:], longer)...)
	}
	return list
}

// Compositions are refused for whatever list, and ahead of power sums that would be too great.
func TestPowerSumsOfWhatIsNoComposition(t *testing.T) {
	lists := [][]int64{nil, {0}, {1}, {1, 2, 3}, slices.Repeat([]int64{100}, impl.MaxSteps), {101}, make([]int64, impl.MaxSteps+1)}
	for _, parts := range append(notCompositions(impl.MaxParts), []int64{1, 1, 1, 1, 1, 1, 1}) {
		for _, list := range lists {
			checkLists(t, []listFunction{powerFunction(parts...)}, list, outcome{impl.ErrRange, true})
		}
	}
	for count := 0; count <= impl.MaxParts; count++ {
		for part := int64(1); part <= 5; part++ {
			checkLists(t, []listFunction{powerFunction(slices.Repeat([]int64{part}, count)...)}, slices.Repeat([]int64{1}, impl.MaxParts), outcome{impl.ErrNone, false})
		}
	}
}

// quasiOutcome is that of a quasi product, whose lists have to be as many as the numbers of ways.
func quasiOutcome(t *testing.T, u []int64, v []int64) outcome {
	t.Helper()
	lists, ways, code := impl.QuasiProduct(u, v)
	if len(lists) != len(ways) {
		t.Errorf("QuasiProduct(%v, %v) = %v, %v, %d", u, v, lists, ways, code)
	}
	return outcome{code, len(lists) == 0}
}

func TestQuasiProductsOfWhatIsNoComposition(t *testing.T) {
	others := [][]int64{nil, {1}, {1, 2}, {5, 5, 5, 5}, {1, 1, 1, 1, 1}, {0}, {6}}
	for _, parts := range append(notCompositions(4), slices.Repeat([]int64{1}, impl.MaxParts), slices.Repeat([]int64{1}, impl.MaxParts+1)) {
		for _, other := range others {
			for _, pair := range [][2][]int64{{parts, other}, {other, parts}, {parts, parts}} {
				if got := quasiOutcome(t, pair[0], pair[1]); got != (outcome{impl.ErrRange, true}) {
					t.Errorf("QuasiProduct(%v, %v): %v", pair[0], pair[1], got)
				}
			}
		}
	}
	for count := 0; count <= 4; count++ {
		for part := int64(1); part <= 5; part++ {
			for _, other := range others[:4] {
				if got := quasiOutcome(t, slices.Repeat([]int64{part}, count), other); got != (outcome{impl.ErrNone, false}) {
					t.Errorf("QuasiProduct of %d times %d and %v: %v", count, part, other, got)
				}
			}
		}
	}
}
