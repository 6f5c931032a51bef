package tests

import (
	"math"
	"strings"
	"testing"

	"loop.example/g01260/impl"
)

// badLengths are numbers of letters that no list of Lyndon words has.
var badLengths = []int64{math.MinInt64, -8, -1, 0, impl.MaxLyndon + 1, 20, math.MaxInt64}

func textOutcome(w string, code int64) outcome { return outcome{code, w == ""} }

func listOutcome(list []string, code int64) outcome { return outcome{code, len(list) == 0} }

func rootOutcome(w string, power int64, code int64) outcome {
	return outcome{code, w == "" && power == 0}
}

// wordFunction is a function of a word.
type wordFunction struct {
	name string
	call func(d int64, w string) outcome
}

// nextFunction is NextLyndon for words of at most n letters.
func nextFunction(n int64) wordFunction {
	return wordFunction{"NextLyndon", func(d int64, w string) outcome { return textOutcome(impl.NextLyndon(d, n, w)) }}
}

// wordFunctions are those of a word of at most MaxLyndon letters.
func wordFunctions() []wordFunction {
	list := []wordFunction{
		{"IsLyndon", func(d int64, w string) outcome { return equalOutcome(impl.IsLyndon(d, w)) }},
		{"CutOf", func(d int64, w string) outcome { return listOutcome(impl.CutOf(d, w)) }},
		{"FactorsOf", func(d int64, w string) outcome { return listOutcome(impl.FactorsOf(d, w)) }},
		{"NecklaceOf", func(d int64, w string) outcome { return textOutcome(impl.NecklaceOf(d, w)) }},
		{"RootOf", func(d int64, w string) outcome { return rootOutcome(impl.RootOf(d, w)) }},
		{"BracketText", func(d int64, w string) outcome { return textOutcome(impl.BracketText(d, w)) }},
	}
	for n := int64(1); n <= impl.MaxLyndon; n++ {
		list = append(list, nextFunction(n))
	}
	return list
}

// checkWordErrors requires an error of functions for a word.
func checkWordErrors(t *testing.T, functions []wordFunction, d int64, w string, want int64) {
	t.Helper()
	for _, f := range functions {
		if got := f.call(d, w); got != (outcome{want, true}) {
			t.Errorf("%s(%d, %q): %v, want %d", f.name, d, w, got, want)
		}
	}
}

// wordsOutOfRange returns texts that are no words of at most MaxLyndon letters for d letters. For many
// of them, or of their beginnings, there would be other errors.
func wordsOutOfRange(d int64) []string {
	behind := string(rune('0' + d))
	list := []string{
		strings.Repeat("0", impl.MaxLyndon+1), strings.Repeat("0", impl.MaxLyndon) + "1", strings.Repeat("10", impl.MaxLyndon),
		strings.Repeat("0", 100000), behind, "0" + behind, behind + "0", "0000000" + behind, behind + behind + "00",
	}
	return append(list, notWords...)
}

func TestWordsOutOfRange(t *testing.T) {
	functions := wordFunctions()
	for d := int64(1); d <= impl.MaxLetter; d++ {
		for _, w := range wordsOutOfRange(d) {
			checkWordErrors(t, functions, d, w, impl.ErrRange)
		}
		// The longest words that are taken.
		for _, w := range []string{strings.Repeat("0", impl.MaxLyndon), strings.Repeat(string(rune('0'+d-1)), impl.MaxLyndon)} {
			for _, f := range functions {
				if got := f.call(d, w); got.code == impl.ErrRange {
					t.Errorf("%s(%d, %q): %v", f.name, d, w, got)
				}
			}
		}
	}
}

func TestLettersOutOfRangeOfLyndonWords(t *testing.T) {
	functions := append(wordFunctions(),
		wordFunction{"ParseBracket", func(d int64, w string) outcome { return textOutcome(impl.ParseBracket(d, w)) }})
	for _, d := range badLetters() {
		for _, w := range []string{"", "0", "01", "00", "1", "a", "000000000", "[0,1]", "[0,1", "3"} {
			checkWordErrors(t, functions, d, w, impl.ErrRange)
		}
		for n := int64(-1); n <= 21; n++ {
			if list, code := impl.LyndonWords(d, n); len(list) != 0 || code != impl.ErrRange {
				t.Errorf("LyndonWords(%d, %d) = %q, %d", d, n, list, code)
			}
			if count, code := impl.CountLyndon(d, n); count != 0 || code != impl.ErrRange {
				t.Errorf("CountLyndon(%d, %d) = %d, %d", d, n, count, code)
			}
			checkWordErrors(t, []wordFunction{nextFunction(n)}, d, "0", impl.ErrRange)
		}
	}
}

func TestLengthsOutOfRange(t *testing.T) {
	for d := int64(1); d <= impl.MaxLetter; d++ {
		for _, n := range badLengths {
			// For 3 letters the lists would be too long, too.
			if list, code := impl.LyndonWords(d, n); len(list) != 0 || code != impl.ErrRange {
				t.Errorf("LyndonWords(%d, %d) = %q, %d", d, n, list, code)
			}
			// Behind the last one of these words there would be none.
			for _, w := range []string{"", "0", "01", "a", string(rune('0' + d - 1))} {
				checkWordErrors(t, []wordFunction{nextFunction(n)}, d, w, impl.ErrRange)
			}
		}
		for _, n := range []int64{math.MinInt64, -20, -1, 0, 21, 64, math.MaxInt64} {
			if count, code := impl.CountLyndon(d, n); count != 0 || code != impl.ErrRange {
				t.Errorf("CountLyndon(%d, %d) = %d, %d", d, n, count, code)
			}
		}
	}
}

func TestWordsOfAnotherKind(t *testing.T) {
	functions := map[string]wordFunction{}
	for _, f := range wordFunctions() {
		functions[f.name] = f
	}
	for d := int64(1); d <= impl.MaxLetter; d++ {
		for _, w := range []string{"", "00", "000", "00000000"} {
			checkWordErrors(t, []wordFunction{functions["CutOf"], functions["BracketText"]}, d, w, impl.ErrState)
		}
		// A letter is a Lyndon word, but has no cut.
		checkWordErrors(t, []wordFunction{functions["CutOf"]}, d, string(rune('0'+d-1)), impl.ErrState)
		checkWordErrors(t, []wordFunction{functions["RootOf"]}, d, "", impl.ErrState)
		last := string(rune('0' + d - 1))
		for n := int64(1); n <= impl.MaxLyndon; n++ {
			for _, w := range []string{last, last + last, last + "0", strings.Repeat(last, impl.MaxLyndon)} {
				checkWordErrors(t, []wordFunction{nextFunction(n)}, d, w, impl.ErrNotFound)
			}
		}
	}
}

func TestDualSeriesErrors(t *testing.T) {
	check := func(d int64, n int64, w string) {
		t.Helper()
		x, code := impl.DualSeries(d, n, w)
		checkSeriesError(t, "DualSeries of "+w, x, code, impl.ErrRange)
	}
	for _, d := range badLetters() {
		for _, n := range append([]int64{1, 2, 4, 5}, badLevels...) {
			check(d, n, "")
			check(d, n, "0")
			check(d, n, "a")
		}
	}
	for d := int64(1); d <= impl.MaxLetter; d++ {
		for _, n := range badLevels {
			check(d, n, "")
			check(d, n, "0")
			check(d, n, "00000000")
		}
	}
	check(3, 5, "")
	check(3, 5, "0")
	check(3, 5, "00000")
	eachShape(func(d int64, n int64) {
		longest := strings.Repeat("0", int(n))
		if x, code := impl.DualSeries(d, n, longest); code != impl.ErrNone || len(x.Terms) != 1 {
			t.Errorf("DualSeries(%d, %d, %q) = %v, %d", d, n, longest, x, code)
		}
		check(d, n, longest+"0")
		check(d, n, longest+string(rune('0'+d-1)))
		check(d, n, "00000000")
		for _, w := range wordsOutOfRange(d) {
			check(d, n, w)
		}
	})
}
