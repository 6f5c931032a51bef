package tests

import (
	"slices"
	"strings"
	"testing"

	"loop.example/g01260/impl"
)

// lyndonRange calls a function for all words of at most MaxLyndon letters.
func lyndonRange(do func(d int64, w string)) {
	for d := int64(1); d <= impl.MaxLetter; d++ {
		for _, w := range allWords(d, impl.MaxLyndon) {
			do(d, w)
		}
	}
}

// turnsOf returns the words that arise if letters of a word are moved, one by one, from its beginning
// to its end, the word itself first.
func turnsOf(w string) []string {
	turns := []string{w}
	for i := 1; i < len(w); i++ {
		turns = append(turns, w[i:]+w[:i])
	}
	return turns
}

// isLeastTurn reports whether a word with letters is less than all others that arise if its letters
// are moved. This tells Lyndon words without their ends.
func isLeastTurn(w string) bool {
	for _, turn := range turnsOf(w)[1:] {
		if w >= turn {
			return false
		}
	}
	return w != ""
}

// isLessThanEnds reports whether a word is a Lyndon word as the document tells it.
func isLessThanEnds(w string) bool {
	for i := 1; i < len(w); i++ {
		if strings.Compare(w, w[i:]) >= 0 {
			return false
		}
	}
	return w != ""
}

// lyndonTexts returns the Lyndon words of at most n letters, compared as texts.
func lyndonTexts(d int64, n int64) []string {
	var list []string
	for _, w := range allWords(d, n) {
		if isLeastTurn(w) {
			list = append(list, w)
		}
	}
	slices.Sort(list)
	return list
}

// listsOfFactors returns all lists of Lyndon words that make a word, and none of which is greater than
// the one ahead of it, which is most for the first one.
func listsOfFactors(w string, most string) [][]string {
	if w == "" {
		return [][]string{nil}
	}
	var lists [][]string
	for i := 1; i <= len(w); i++ {
		if first := w[:i]; isLessThanEnds(first) && first <= most {
			for _, rest := range listsOfFactors(w[i:], first) {
				lists = append(lists, append([]string{first}, rest...))
			}
		}
	}
	return lists
}

func TestLyndonWordsAreLessThanTheirTurns(t *testing.T) {
	lyndonRange(func(d int64, w string) {
		if is, code := impl.IsLyndon(d, w); is != isLeastTurn(w) || is != isLessThanEnds(w) || code != impl.ErrNone {
			t.Errorf("IsLyndon(%d, %q) = %v, %d", d, w, is, code)
		}
	})
}

func TestListsHaveAllLyndonWords(t *testing.T) {
	for d := int64(1); d <= impl.MaxLetter; d++ {
		for n := int64(1); n <= impl.MaxLyndon; n++ {
			var want []string
			for _, w := range lyndonTexts(d, n) {
				if int64(len(w)) == n {
					want = append(want, w)
				}
			}
			count, code := impl.CountLyndon(d, n)
			if count != int64(len(want)) || code != impl.ErrNone {
				t.Errorf("CountLyndon(%d, %d) = %d, %d, want %d", d, n, count, code, len(want))
			}
			wantCode := int64(impl.ErrNone)
			if len(want) > impl.MaxListed {
				want, wantCode = nil, impl.ErrLimit
			}
			if got, code := impl.LyndonWords(d, n); !slices.Equal(got, want) || code != wantCode {
				t.Errorf("LyndonWords(%d, %d) = %q, %d, want %q", d, n, got, code, want)
			}
		}
	}
}

// Each word is a power of a root of a length that divides its own, and the root can be turned into
// one Lyndon word, in as many ways as it has letters.
func TestCountsMakeAllWords(t *testing.T) {
	for d := int64(1); d <= impl.MaxLetter; d++ {
		words := int64(1)
		for n := int64(1); n <= 20; n++ {
			words *= d
			sum := int64(0)
			for length := int64(1); length <= n; length++ {
				if count, _ := impl.CountLyndon(d, length); n%length == 0 {
					sum += length * count
				}
			}
			if sum != words {
				t.Errorf("for %d letters, %d of %d words of length %d are counted", d, sum, words, n)
			}
		}
	}
}

func TestNextLyndonWordsOfAllWords(t *testing.T) {
	for n := int64(1); n <= impl.MaxLyndon; n++ {
		for d := int64(1); d <= impl.MaxLetter; d++ {
			list := lyndonTexts(d, n)
			for _, w := range allWords(d, impl.MaxLyndon) {
				want, wantCode := "", int64(impl.ErrNotFound)
				if i := slices.IndexFunc(list, func(v string) bool { return v > w }); i >= 0 {
					want, wantCode = list[i], impl.ErrNone
				}
				if got, code := impl.NextLyndon(d, n, w); got != want || code != wantCode {
					t.Errorf("NextLyndon(%d, %d, %q) = %q, %d, want %q", d, n, w, got, code, want)
				}
			}
		}
	}
}

func TestCutsAreAtTheLongestEnds(t *testing.T) {
	lyndonRange(func(d int64, w string) {
		got, code := impl.CutOf(d, w)
		if len(w) < 2 || !isLeastTurn(w) {
			if len(got) != 0 || code != impl.ErrState {
				t.Errorf("CutOf(%d, %q) = %q, %d", d, w, got, code)
			}
			return
		}
		i := 1
		for !isLessThanEnds(w[i:]) {
			i++
		}
		if !slices.Equal(got, []string{w[:i], w[i:]}) || code != impl.ErrNone {
			t.Errorf("CutOf(%d, %q) = %q, %d, want it at %d", d, w, got, code, i)
		}
	})
}

func TestFactorsAreTheOnlyOnes(t *testing.T) {
	lyndonRange(func(d int64, w string) {
		// The letters end ahead of 3.
		lists := listsOfFactors(w, "3")
		got, code := impl.FactorsOf(d, w)
		if len(lists) != 1 || !slices.Equal(got, lists[0]) || code != impl.ErrNone {
			t.Errorf("FactorsOf(%d, %q) = %q, %d, want %q", d, w, got, code, lists)
		}
	})
}

func TestNecklacesAreLeastTurns(t *testing.T) {
	lyndonRange(func(d int64, w string) {
		got, code := impl.NecklaceOf(d, w)
		checkWord(t, "NecklaceOf "+w, got, code, slices.Min(turnsOf(w)))
	})
}

func TestRootsAreShortest(t *testing.T) {
	lyndonRange(func(d int64, w string) {
		if w == "" {
			return
		}
		length := 1
		for len(w)%length != 0 || w != strings.Repeat(w[:length], len(w)/length) {
			length++
		}
		got, power, code := impl.RootOf(d, w)
		checkWord(t, "RootOf "+w, got, code, w[:length])
		if power != int64(len(w)/length) {
			t.Errorf("RootOf(%d, %q) has the power %d", d, w, power)
		}
	})
}
