package tests

import (
	"slices"
	"strings"
	"testing"

	"loop.example/g01260/impl"
)

// wordSeriesCase is the text of a group word, and that of a series that belongs to it.
type wordSeriesCase struct {
	d, n       int64
	word, want string
}

func TestSignatureOfWord(t *testing.T) {
	for _, c := range []wordSeriesCase{
		{1, 1, "", "1/1*"}, {2, 5, "", "1/1*"}, {3, 4, "", "1/1*"},
		{1, 1, "a", "1/1*+1/1*0"}, {1, 1, "A", "1/1*+-1/1*0"}, {3, 1, "C", "1/1*+-1/1*2"}, {2, 1, "ab", "1/1*+1/1*0+1/1*1"},
		{1, 5, "a", "1/1*+1/1*0+1/2*00+1/6*000+1/24*0000+1/120*00000"},
		{1, 5, "A", "1/1*+-1/1*0+1/2*00+-1/6*000+1/24*0000+-1/120*00000"},
		{1, 5, "aaaaaaaaaaaa", "1/1*+12/1*0+72/1*00+288/1*000+864/1*0000+10368/5*00000"},
		{2, 2, "ab", "1/1*+1/1*0+1/1*1+1/2*00+1/1*01+1/2*11"},
		{2, 2, "ba", "1/1*+1/1*0+1/1*1+1/2*00+1/1*10+1/2*11"},
		{2, 2, "aB", "1/1*+1/1*0+-1/1*1+1/2*00+-1/1*01+1/2*11"},
		{3, 2, "bC", "1/1*+1/1*1+-1/1*2+1/2*11+-1/1*12+1/2*22"},
		{2, 3, "aab", "1/1*+2/1*0+1/1*1+2/1*00+2/1*01+1/2*11+4/3*000+2/1*001+1/1*011+1/6*111"},
		{2, 2, "abA", "1/1*+1/1*1+1/1*01+-1/1*10+1/2*11"},
		{2, 3, "ABab", "1/1*+1/1*01+-1/1*10+-1/2*001+1/1*010+1/2*011+-1/2*100+-1/1*101+1/2*110"},
		// Signatures of words that reduce to nothing, or are no longer than a level shows.
		{1, 5, "aA", "1/1*"}, {2, 5, "abBA", "1/1*"}, {3, 4, "abcabcCBACBA", "1/1*"}, {2, 1, "ABab", "1/1*"}, {2, 2, "BAbABaba", "1/1*"},
	} {
		got, code := impl.SignatureOfWord(c.d, c.n, numbersOf(c.word))
		checkSeries(t, "SignatureOfWord "+c.word, got, code, c.d, c.n, c.want)
	}
}

func TestDepthOfWord(t *testing.T) {
	for _, c := range []struct {
		word  string
		depth int64
	}{
		{"", 0}, {"aA", 0}, {"abBA", 0}, {"abcabcCBACBA", 0}, {"aAaAaAaAaAaA", 0},
		{"a", 1}, {"A", 1}, {"aB", 1}, {"abA", 1}, {"aaaaaaaaaaaa", 1}, {"cab", 1}, {"aabAB", 1}, {"abAc", 1}, {"abABb", 1},
		{"abAB", 2}, {"ABab", 2}, {"aBAb", 2}, {"bABa", 2}, {"acAC", 2}, {"cBCb", 2}, {"abABABab", 2}, {"aabAAB", 2}, {"abcACB", 2}, {"caBAbC", 2},
		{"aaabbbAAABBB", 2}, {"abABabAB", 2},
		{"BAbABaba", 3}, {"abABaBAb", 3}, {"BAbaCABabc", 3}, {"BAbaCCABabcc", 3}, {"cBAbABabaC", 3},
	} {
		eachLettersOf(c.word, func(d int64) {
			for n := int64(1); n <= levelsOf(d); n++ {
				want := c.depth
				if want > n {
					want = 0
				}
				if got, code := impl.DepthOfWord(d, n, numbersOf(c.word)); got != want || code != impl.ErrNone {
					t.Errorf("DepthOfWord(%d, %d) of %q = %d, %d, want %d", d, n, c.word, got, code, want)
				}
			}
		})
	}
}

func TestLeadingPart(t *testing.T) {
	for _, c := range []struct{ word, want string }{
		{"a", "1/1*0"}, {"A", "-1/1*0"}, {"aaB", "2/1*0+-1/1*1"}, {"aaaaaaaaaaaa", "12/1*0"}, {"cabC", "1/1*0+1/1*1"}, {"aCC", "1/1*0+-2/1*2"}, {"abA", "1/1*1"},
		{"abAB", "1/1*01+-1/1*10"}, {"ABab", "1/1*01+-1/1*10"}, {"aBAb", "-1/1*01+1/1*10"}, {"acAC", "1/1*02+-1/1*20"}, {"cBCb", "1/1*12+-1/1*21"},
		{"aaabbbAAABBB", "9/1*01+-9/1*10"}, {"abABabAB", "2/1*01+-2/1*10"}, {"abABacAC", "1/1*01+1/1*02+-1/1*10+-1/1*20"},
		{"BAbABaba", "-1/1*001+2/1*010+-1/1*100"}, {"abABaBAb", "-1/1*011+2/1*101+-1/1*110"},
		{"BAbaCABabc", "1/1*012+-1/1*102+-1/1*201+1/1*210"}, {"BAbaCCABabcc", "2/1*012+-2/1*102+-2/1*201+2/1*210"},
		{"", "0"}, {"aA", "0"}, {"abBA", "0"}, {"abcabcCBACBA", "0"},
	} {
		eachLettersOf(c.word, func(d int64) {
			for n := int64(1); n <= levelsOf(d); n++ {
				got, code := impl.LeadingPart(d, n, numbersOf(c.word))
				want := c.want
				// The depth is the length of the last word of the text.
				if depth := len(want) - 1 - strings.LastIndex(want, "*"); want != "0" && int64(depth) > n {
					want = "0"
				}
				checkSeries(t, "LeadingPart of "+c.word, got, code, d, n, want)
			}
		})
	}
}

func TestWordOfSignature(t *testing.T) {
	for _, c := range []wordSeriesCase{
		{1, 1, "", "1/1*"}, {2, 5, "", "1/1*"}, {3, 4, "", "1/1*"}, {1, 1, "a", "1/1*+1/1*0"}, {1, 1, "A", "1/1*+-1/1*0"}, {3, 1, "C", "1/1*+-1/1*2"},
		{1, 2, "a", "1/1*+1/1*0+1/2*00"}, {1, 2, "aa", "1/1*+2/1*0+2/1*00"}, {1, 2, "AA", "1/1*+-2/1*0+2/1*00"},
		{2, 2, "ab", "1/1*+1/1*0+1/1*1+1/2*00+1/1*01+1/2*11"}, {2, 2, "ba", "1/1*+1/1*0+1/1*1+1/2*00+1/1*10+1/2*11"},
		{2, 2, "aB", "1/1*+1/1*0+-1/1*1+1/2*00+-1/1*01+1/2*11"}, {3, 2, "bC", "1/1*+1/1*1+-1/1*2+1/2*11+-1/1*12+1/2*22"},
		{2, 3, "aab", "1/1*+2/1*0+1/1*1+2/1*00+2/1*01+1/2*11+4/3*000+2/1*001+1/1*011+1/6*111"},
		{1, 5, "AAAAA", "1/1*+-5/1*0+25/2*00+-125/6*000+625/24*0000+-625/24*00000"},
	} {
		got, code := impl.WordOfSignature(seriesOf(t, c.d, c.n, c.want))
		checkNumbers(t, "WordOfSignature "+c.want, got, code, numbersOf(c.word))
	}
	for _, c := range []wordSeriesCase{
		// No constant, or another one.
		{1, 1, "", "0"}, {2, 5, "", "0"}, {3, 4, "", "0"}, {1, 1, "", "2/1*"}, {1, 1, "", "-1/1*"}, {1, 1, "", "1/2*"}, {1, 1, "", "1/1*0"}, {1, 1, "", "1/2*+1/1*0"},
		// More or other letters than one number makes.
		{1, 1, "", "1/1*+2/1*0"}, {1, 1, "", "1/1*+1/2*0"}, {2, 1, "", "1/1*+1/1*0+1/1*1"}, {2, 1, "", "1/1*+1/1*0+-1/1*1"}, {1, 1, "", "1/1*+1000000000/1*0"},
		// Longer words that are missing, or that differ, or are too much.
		{1, 2, "", "1/1*+1/1*0"}, {1, 2, "", "1/1*+1/1*0+1/1*00"}, {1, 2, "", "1/1*+1/2*00"}, {2, 2, "", "1/1*+1/1*0+1/2*00+1/1*01"},
		{2, 2, "", "1/1*+1/1*0+1/1*1+1/2*00+1/2*01+1/2*10+1/2*11"}, {2, 2, "", "1/1*+1/1*0+1/1*1+1/2*00+1/1*01"}, {1, 3, "", "1/1*+1/1*0+1/2*00+1/7*000"},
		{1, 2, "", "1/1*+1/2*0+1/8*00"}, {1, 2, "", "1/1*+3/1*0+9/2*00"}, {1, 5, "", "1/1*+6/1*0+18/1*00+36/1*000+54/1*0000+324/5*00000"},
	} {
		got, code := impl.WordOfSignature(seriesOf(t, c.d, c.n, c.want))
		checkNumbersError(t, "WordOfSignature "+c.want, got, code, impl.ErrNotFound)
	}
	for _, x := range []impl.Series{mixedSeries(2, 3, 3, 4), mixedSeries(3, 4, 2, 7), largeSeries(2, 5), largeSeries(3, 4)} {
		got, code := impl.WordOfSignature(x)
		checkNumbersError(t, "WordOfSignature", got, code, impl.ErrNotFound)
	}
}

// Signatures of words that are longer than the level are those of other words, or of none.
func TestWordsLongerThanTheLevel(t *testing.T) {
	for _, c := range []struct {
		d, n       int64
		word, want string
	}{
		{1, 1, "aaA", "a"}, {1, 1, "aA", ""}, {1, 1, "aa", noFit}, {1, 5, "aaaaaA", "aaaa"}, {1, 5, "aaaaaa", noFit}, {1, 5, "aaaaaaaaaaaa", noFit},
		{2, 1, "abA", "b"}, {2, 2, "abA", noFit}, {2, 3, "abA", "abA"}, {2, 5, "abA", "abA"},
		{2, 1, "abAB", ""}, {2, 2, "abAB", noFit}, {2, 3, "abAB", noFit}, {2, 4, "abAB", "abAB"}, {2, 5, "abAB", "abAB"},
		{2, 1, "aabAB", "a"}, {2, 1, "ABabB", "B"}, {2, 4, "aabAB", noFit}, {2, 5, "aabAB", "aabAB"},
		{2, 1, "BAbABaba", ""}, {2, 2, "BAbABaba", ""}, {2, 3, "BAbABaba", noFit}, {2, 5, "BAbABaba", noFit},
		{2, 2, "BAbABabaB", "B"}, {2, 2, "BAbABababA", "bA"}, {2, 2, "BAbABabaaa", "aa"}, {2, 3, "BAbABabaB", noFit},
		{3, 1, "abcBA", "c"}, {3, 3, "abcCA", "abA"}, {3, 4, "aAbBcCabcA", "abcA"}, {3, 4, "abcab", noFit}, {3, 2, "BAbaCABabcCa", "Ca"},
	} {
		x, code := impl.SignatureOfWord(c.d, c.n, numbersOf(c.word))
		if code != impl.ErrNone {
			t.Errorf("SignatureOfWord %s: code %d", c.word, code)
		}
		got, code := impl.WordOfSignature(x)
		if c.want == noFit {
			checkNumbersError(t, "WordOfSignature of "+c.word, got, code, impl.ErrNotFound)
			continue
		}
		checkNumbers(t, "WordOfSignature of "+c.word, got, code, numbersOf(c.want))
	}
}

// Words of one length need not differ at a lower level, so that the first one counts. Of words of at most
// Level numbers, no two that are reduced have one signature.
func TestReducedWordsHaveSignaturesOfTheirOwn(t *testing.T) {
	eachShape(func(d int64, n int64) {
		words := map[string][]int64{}
		for _, word := range reducedUpTo(d, n) {
			x, code := impl.SignatureOfWord(d, n, word)
			text, textCode := impl.SeriesText(x)
			if other, found := words[text]; found || code != impl.ErrNone || textCode != impl.ErrNone {
				t.Errorf("for %d and %d, %v and %v have the signature %s, %d", d, n, other, word, text, code)
			}
			words[text] = word
		}
	})
}

// reducedUpTo returns the reduced words of at most n numbers for d letters, by their lengths, and within
// lexicographically.
func reducedUpTo(d int64, n int64) [][]int64 {
	list := [][]int64{nil}
	for _, text := range textsOfGroup(d, int(n)) {
		word := numbersOf(text)
		isReduced := len(word) > 0
		for i := 1; i < len(word); i++ {
			isReduced = isReduced && word[i] != -word[i-1]
		}
		if isReduced {
			list = append(list, word)
		}
	}
	slices.SortStableFunc(list, func(v []int64, w []int64) int {
		if len(v) != len(w) {
			return len(v) - len(w)
		}
		return slices.Compare(v, w)
	})
	return list
}

func TestReducedWordsAreAsManyAsCounted(t *testing.T) {
	eachShape(func(d int64, n int64) {
		want, sameLength := int64(1), 2*d
		for range n {
			want, sameLength = want+sameLength, sameLength*(2*d-1)
		}
		if got := int64(len(reducedUpTo(d, n))); got != want {
			t.Errorf("there are %d reduced words for %d and %d, not %d", got, d, n, want)
		}
	})
}
