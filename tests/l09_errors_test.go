package tests

import (
	"slices"
	"strings"
	"testing"

	"loop.example/g01260/impl"
)

func numberOutcome(number int64, code int64) outcome { return outcome{code, number == 0} }

// groupFunction is a function of a group word, with some other arguments.
type groupFunction struct {
	name string
	call func(d int64, word []int64) outcome
}

// groupLevelFunctions are those of a group word and a level.
func groupLevelFunctions(n int64) []groupFunction {
	return []groupFunction{
		{"SignatureOfWord", func(d int64, word []int64) outcome { return seriesOutcome(impl.SignatureOfWord(d, n, word)) }},
		{"DepthOfWord", func(d int64, word []int64) outcome { return numberOutcome(impl.DepthOfWord(d, n, word)) }},
		{"LeadingPart", func(d int64, word []int64) outcome { return seriesOutcome(impl.LeadingPart(d, n, word)) }},
	}
}

// groupPairFunctions are those of two group words, with another one ahead and behind.
func groupPairFunctions(other []int64) []groupFunction {
	return []groupFunction{
		{"MultiplyWords, first", func(d int64, word []int64) outcome { return endOutcome(impl.MultiplyWords(d, word, other)) }},
		{"MultiplyWords, second", func(d int64, word []int64) outcome { return endOutcome(impl.MultiplyWords(d, other, word)) }},
		{"CommutatorWord, first", func(d int64, word []int64) outcome { return endOutcome(impl.CommutatorWord(d, word, other)) }},
		{"CommutatorWord, second", func(d int64, word []int64) outcome { return endOutcome(impl.CommutatorWord(d, other, word)) }},
		{"AreEqualInGroup, first", func(d int64, word []int64) outcome { return equalOutcome(impl.AreEqualInGroup(d, word, other)) }},
		{"AreEqualInGroup, second", func(d int64, word []int64) outcome { return equalOutcome(impl.AreEqualInGroup(d, other, word)) }},
	}
}

// plainGroupFunctions are those of a group word alone, or of one twice.
func plainGroupFunctions() []groupFunction {
	return []groupFunction{
		{"ReduceWord", func(d int64, word []int64) outcome { return endOutcome(impl.ReduceWord(d, word)) }},
		{"InverseWord", func(d int64, word []int64) outcome { return endOutcome(impl.InverseWord(d, word)) }},
		{"LetterSums", func(d int64, word []int64) outcome { return endOutcome(impl.LetterSums(d, word)) }},
		{"PathOfWord", func(d int64, word []int64) outcome { return pathOutcome(impl.PathOfWord(d, word)) }},
		{"GroupText", func(d int64, word []int64) outcome { return textOutcome(impl.GroupText(d, word)) }},
		{"MultiplyWords with itself", func(d int64, word []int64) outcome { return endOutcome(impl.MultiplyWords(d, word, word)) }},
		{"CommutatorWord with itself", func(d int64, word []int64) outcome { return endOutcome(impl.CommutatorWord(d, word, word)) }},
		{"AreEqualInGroup to itself", func(d int64, word []int64) outcome { return equalOutcome(impl.AreEqualInGroup(d, word, word)) }},
	}
}

// groupFunctions are all functions of group words, with other arguments that are in their ranges, and that
// are not.
func groupFunctions() []groupFunction {
	list := plainGroupFunctions()
	for _, n := range append([]int64{1, 2, 4, 5}, badLevels...) {
		list = append(list, groupLevelFunctions(n)...)
	}
	for _, other := range [][]int64{nil, {1}, {1, -1}, slices.Repeat([]int64{1}, impl.MaxGroup), slices.Repeat([]int64{-1}, impl.MaxGroup)} {
		list = append(list, groupPairFunctions(other)...)
	}
	return list
}

// checkGroupOutcomes requires an outcome of functions for a group word.
func checkGroupOutcomes(t *testing.T, functions []groupFunction, d int64, word []int64, want outcome) {
	t.Helper()
	for _, f := range functions {
		if got := f.call(d, word); got != want {
			t.Errorf("%s(%d, %v): %v, want %v", f.name, d, word, got, want)
		}
	}
}

// What is no group word is told ahead of results that would be too long.
func TestFunctionsRefuseWhatIsNoGroupWord(t *testing.T) {
	functions := groupFunctions()
	for _, bad := range notGroupWords() {
		checkGroupOutcomes(t, functions, bad.d, bad.word, outcome{impl.ErrRange, true})
	}
}

// Letters that only the other word has are beyond those told.
func TestGroupWordsOfMoreLetters(t *testing.T) {
	for d := int64(1); d < impl.MaxLetter; d++ {
		for _, number := range []int64{d + 1, -d - 1} {
			for _, word := range [][]int64{nil, {1}, {number}, {-number}} {
				checkGroupOutcomes(t, groupPairFunctions([]int64{number}), d, word, outcome{impl.ErrRange, true})
				checkGroupOutcomes(t, groupPairFunctions([]int64{1, number, -number}), d, word, outcome{impl.ErrRange, true})
			}
		}
	}
}

// goodGroupWords returns group words of all lengths for d letters.
func goodGroupWords(d int64) [][]int64 {
	list := [][]int64{nil, {}, {1}, {-d}, {1, -1}, {d, 1, -d}}
	for length := 2; length <= impl.MaxGroup; length++ {
		list = append(list, slices.Repeat([]int64{1}, length), slices.Repeat([]int64{d, -1}, length)[:length])
	}
	return list
}

func TestLevelsOutOfRangeOfGroupWords(t *testing.T) {
	for d := int64(1); d <= impl.MaxLetter; d++ {
		for _, word := range goodGroupWords(d) {
			for _, n := range append([]int64{levelsOf(d) + 1}, badLevels...) {
				checkGroupOutcomes(t, groupLevelFunctions(n), d, word, outcome{impl.ErrRange, true})
			}
			for n := int64(1); n <= levelsOf(d); n++ {
				for _, f := range groupLevelFunctions(n) {
					if got := f.call(d, word); got.code != impl.ErrNone {
						t.Errorf("%s(%d, %d, %v): %v", f.name, d, n, word, got)
					}
				}
			}
		}
	}
	checkGroupOutcomes(t, groupLevelFunctions(5), 3, nil, outcome{impl.ErrRange, true})
	checkGroupOutcomes(t, groupLevelFunctions(5), 3, []int64{4}, outcome{impl.ErrRange, true})
}

func TestFunctionsTakeGroupWords(t *testing.T) {
	for d := int64(1); d <= impl.MaxLetter; d++ {
		for _, word := range goodGroupWords(d) {
			for _, f := range append(plainGroupFunctions(), groupPairFunctions(nil)...) {
				// Only results that are too long may be refused.
				got := f.call(d, word)
				if got.code != impl.ErrNone && (got != outcome{impl.ErrLimit, true} || len(word) <= impl.MaxGroup/2) {
					t.Errorf("%s(%d, %v): %v", f.name, d, word, got)
				}
			}
		}
	}
}

// Letters out of range are told ahead of texts of no group words.
func TestLettersOutOfRangeOfGroupTexts(t *testing.T) {
	for _, d := range badLetters() {
		for _, text := range append([]string{"a", "d", "D", "?", "aA", "abc", strings.Repeat("a", 12), strings.Repeat("a", 13), strings.Repeat("?", 1000)}, groupTexts...) {
			word, code := impl.ParseGroup(d, text)
			checkNumbersError(t, "ParseGroup "+text, word, code, impl.ErrRange)
		}
	}
}

func TestWordsOfWhatIsNoSeries(t *testing.T) {
	for what, bad := range notSeries() {
		for _, first := range [][]impl.Term{nil, {{Word: "", Value: fr(1, 1)}}, {{Word: "", Value: fr(2, 1)}}} {
			// ErrInvalid is told whether or not there could be a signature with the constant.
			x := bad
			x.Terms = slices.Concat(first, bad.Terms)
			word, code := impl.WordOfSignature(x)
			checkNumbersError(t, "WordOfSignature, "+what, word, code, impl.ErrInvalid)
		}
	}
}

// Every term counts: with another value, without it, or with one more, a series is no signature of the word,
// nor of another one.
func TestWordsOfSeriesThatAreNearlySignatures(t *testing.T) {
	for _, c := range []struct {
		d, n int64
		word string
	}{
		{1, 2, "a"}, {1, 5, "aaa"}, {2, 2, "aB"}, {2, 3, "abA"}, {2, 4, "abAB"}, {2, 4, ""}, {3, 2, "Cb"}, {3, 3, "abc"},
	} {
		x, _ := impl.SignatureOfWord(c.d, c.n, numbersOf(c.word))
		checked := 0
		for _, w := range allWords(c.d, c.n) {
			for _, a := range []impl.Fraction{zero, fr(1, 7), fr(1000, 1)} {
				near, code := impl.PutTerm(x, w, a)
				if code != impl.ErrNone || sameSeries(near, x) {
					continue
				}
				checked++
				got, code := impl.WordOfSignature(near)
				checkNumbersError(t, "WordOfSignature of what is nearly "+c.word+" at "+w, got, code, impl.ErrNotFound)
			}
		}
		if checked < 2 {
			t.Errorf("only %d series are nearly the signature of %q", checked, c.word)
		}
	}
}
