package tests

import (
	"math"
	"slices"
	"strings"
	"testing"

	"loop.example/g01260/impl"
)

// numbersOf returns the group word with a text, found without the program.
func numbersOf(text string) []int64 {
	var word []int64
	for _, letter := range text {
		if letter >= 'a' {
			word = append(word, int64(letter-'a')+1)
		} else {
			word = append(word, -int64(letter-'A')-1)
		}
	}
	return word
}

// lettersOf returns the least number of letters for which a text stands for a group word.
func lettersOf(text string) int64 {
	d := int64(1)
	for _, number := range numbersOf(text) {
		d = max(d, number, -number)
	}
	return d
}

// eachLettersOf calls a function for all numbers of letters for which texts stand for group words.
func eachLettersOf(texts string, do func(d int64)) {
	for d := lettersOf(texts); d <= impl.MaxLetter; d++ {
		do(d)
	}
}

// checkNumbers compares a result with numbers.
func checkNumbers(t *testing.T, name string, got []int64, code int64, want []int64) {
	t.Helper()
	if code != impl.ErrNone || !slices.Equal(got, want) {
		t.Errorf("%s = %v, %d, want %v", name, got, code, want)
	}
}

// checkNumbersError compares a result with an error code and no numbers beside it.
func checkNumbersError(t *testing.T, name string, got []int64, code int64, want int64) {
	t.Helper()
	if code != want || len(got) != 0 {
		t.Errorf("%s = %v, %d, want no numbers and %d", name, got, code, want)
	}
}

// namedWord is a list with letters for which it may be no group word.
type namedWord struct {
	name string
	d    int64
	word []int64
}

// wordsWith returns lists of valid numbers with one other in them, at the beginning, at the end, and
// between others.
func wordsWith(name string, d int64, number int64) []namedWord {
	longest := slices.Repeat([]int64{1}, impl.MaxGroup)
	list := []namedWord{
		{name + " alone", d, []int64{number}},
		{name + " ahead", d, []int64{number, 1, -1}},
		{name + " behind", d, []int64{-d, d, number}},
		// Two neighbours that are opposite do not become a group word by being left out.
		{name + " and its opposite", d, []int64{1, number, -number}},
	}
	for i := range longest {
		word := slices.Clone(longest)
		word[i] = number
		list = append(list, namedWord{name + " among others", d, word})
	}
	return list
}

// notGroupWords returns what is no group word, by what is wrong with it.
func notGroupWords() []namedWord {
	var list []namedWord
	longer := slices.Repeat([]int64{1}, impl.MaxGroup+1)
	for _, d := range badLetters() {
		for _, word := range [][]int64{nil, {}, {1}, {-1}, {1, -1}, {1, 2, 3}, {0}, {4}, longer[1:], longer} {
			list = append(list, namedWord{"letters out of range", d, word})
		}
	}
	for d := int64(1); d <= impl.MaxLetter; d++ {
		list = append(list,
			namedWord{"a number too much", d, longer},
			namedWord{"an inverse too much", d, slices.Repeat([]int64{-d}, impl.MaxGroup+1)},
			namedWord{"too many, but only 1 reduced", d, append(slices.Repeat([]int64{d, -d}, impl.MaxGroup/2), 1)},
			namedWord{"too many, but nothing reduced", d, slices.Repeat([]int64{1, -1}, impl.MaxGroup)},
			namedWord{"many numbers", d, slices.Repeat([]int64{1}, 1000)},
			namedWord{"zeros", d, []int64{0, 0}},
			namedWord{"many zeros", d, make([]int64, impl.MaxGroup+1)})
		list = append(list, wordsWith("a zero", d, 0)...)
		for _, number := range []int64{d + 1, d + 2, 100, 256 + d, 1<<32 + 1, math.MaxInt64 - 1, math.MaxInt64} {
			list = append(list, wordsWith("too great a number", d, number)...)
			list = append(list, wordsWith("too great an inverse", d, -number)...)
		}
		list = append(list, wordsWith("the least number", d, math.MinInt64)...)
	}
	return list
}

func TestIsGroupWord(t *testing.T) {
	if impl.MaxGroup != 12 {
		t.Errorf("MaxGroup = %d", impl.MaxGroup)
	}
	for _, bad := range notGroupWords() {
		if impl.IsGroupWord(bad.d, bad.word) {
			t.Errorf("IsGroupWord(%d, %v), %s", bad.d, bad.word, bad.name)
		}
	}
	for d := int64(1); d <= impl.MaxLetter; d++ {
		for number := -d; number <= d; number++ {
			for length := 0; length <= impl.MaxGroup && number != 0; length++ {
				if word := slices.Repeat([]int64{number}, length); !impl.IsGroupWord(d, word) {
					t.Errorf("IsGroupWord(%d, %v) = false", d, word)
				}
			}
		}
	}
	// Group words need not be reduced.
	for _, text := range []string{"", "a", "A", "aA", "abAB", "cC", "ABCabc", "aAaAaAaAaAaA", "abcabcCBACBA"} {
		eachLettersOf(text, func(d int64) {
			if !impl.IsGroupWord(d, numbersOf(text)) || !impl.IsGroupWord(d, append([]int64{}, numbersOf(text)...)) {
				t.Errorf("IsGroupWord(%d) of %s = false", d, text)
			}
		})
	}
}

func TestReduceWord(t *testing.T) {
	for _, c := range [][2]string{
		{"", ""}, {"a", "a"}, {"A", "A"}, {"c", "c"}, {"C", "C"}, {"aa", "aa"}, {"AA", "AA"}, {"ab", "ab"}, {"aB", "aB"},
		// Only neighbours that are opposite are left out.
		{"abA", "abA"}, {"aba", "aba"}, {"abAB", "abAB"}, {"bAB", "bAB"}, {"cBaC", "cBaC"},
		{"aA", ""}, {"Aa", ""}, {"cC", ""}, {"Bb", ""},
		{"aAb", "b"}, {"Aab", "b"}, {"baA", "b"}, {"bAa", "b"}, {"bBaC", "aC"}, {"aCbB", "aC"}, {"aBbC", "aC"},
		{"aaA", "a"}, {"Aaa", "a"}, {"aAa", "a"}, {"AaA", "A"}, {"aAaA", ""}, {"aaAA", ""}, {"AAaa", ""},
		// What is left comes together.
		{"abBA", ""}, {"abBAb", "b"}, {"babBA", "b"}, {"abBa", "aa"}, {"abBbA", "abA"}, {"abBAaB", "aB"}, {"aabBAAbb", "bb"},
		{"abcCBA", ""}, {"cabBAC", ""}, {"abcCBa", "aa"}, {"bcaACab", "bab"}, {"abCcBAC", "C"}, {"cCaabBAA", ""},
		{"abAaBA", ""}, {"abAaBAcC", ""}, {"cabAaBA", "c"},
		// The longest ones.
		{"aaaaaaaaaaaa", "aaaaaaaaaaaa"}, {"CCCCCCCCCCCC", "CCCCCCCCCCCC"}, {"abababababab", "abababababab"},
		{"abAbabAbabAb", "abAbabAbabAb"}, {"aAaAaAaAaAaA", ""}, {"abcabcCBACBA", ""}, {"aBcAbCcBaCbA", ""}, {"abcabcCBACB", "a"},
		{"aaaaaaAAAAAA", ""}, {"aaaaaaaAAAAA", "aa"}, {"BaaaaaaaaaaA", "Baaaaaaaaa"}, {"aAbbbbbbbbbb", "bbbbbbbbbb"},
	} {
		eachLettersOf(c[0], func(d int64) {
			got, code := impl.ReduceWord(d, numbersOf(c[0]))
			checkNumbers(t, "ReduceWord "+c[0], got, code, numbersOf(c[1]))
		})
	}
}

func TestInverseWord(t *testing.T) {
	for _, c := range [][2]string{
		{"", ""}, {"a", "A"}, {"A", "a"}, {"c", "C"}, {"C", "c"}, {"aa", "AA"}, {"ab", "BA"}, {"aB", "bA"}, {"abc", "CBA"}, {"CbA", "aBc"},
		// Inverses are not reduced.
		{"aA", "aA"}, {"aAb", "BaA"}, {"abBc", "CbBA"}, {"aAaAaAaAaAaA", "aAaAaAaAaAaA"},
		{"aaaaaaaaaaaa", "AAAAAAAAAAAA"}, {"abcabcabcabc", "CBACBACBACBA"},
	} {
		eachLettersOf(c[0], func(d int64) {
			got, code := impl.InverseWord(d, numbersOf(c[0]))
			checkNumbers(t, "InverseWord "+c[0], got, code, numbersOf(c[1]))
			back, code := impl.InverseWord(d, got)
			checkNumbers(t, "InverseWord twice "+c[0], back, code, numbersOf(c[0]))
		})
	}
}

func TestMultiplyWords(t *testing.T) {
	for _, c := range [][3]string{
		{"", "", ""}, {"a", "", "a"}, {"", "a", "a"}, {"a", "b", "ab"}, {"b", "a", "ba"}, {"ab", "ab", "abab"}, {"C", "a", "Ca"},
		{"a", "A", ""}, {"A", "a", ""}, {"ab", "BA", ""}, {"ab", "Ba", "aa"}, {"ab", "BAc", "c"}, {"cab", "BA", "c"}, {"abc", "CBA", ""},
		// Words that are not reduced, also where only one of them has numbers.
		{"aAb", "", "b"}, {"", "bAa", "b"}, {"aA", "bB", ""}, {"aB", "bB", "aB"}, {"abBA", "c", "c"}, {"aAaAaAaAaAaA", "aaaaaaaaaaaa", "aaaaaaaaaaaa"},
		{"aAb", "Bb", "b"}, {"aCcb", "BbBA", ""},
	} {
		eachLettersOf(c[0]+c[1], func(d int64) {
			got, code := impl.MultiplyWords(d, numbersOf(c[0]), numbersOf(c[1]))
			checkNumbers(t, "MultiplyWords "+c[0]+" and "+c[1], got, code, numbersOf(c[2]))
		})
	}
}

func TestCommutatorWord(t *testing.T) {
	for _, c := range [][3]string{
		{"a", "b", "ABab"}, {"b", "a", "BAba"}, {"a", "B", "AbaB"}, {"A", "b", "aBAb"}, {"a", "c", "ACac"},
		{"", "", ""}, {"a", "", ""}, {"", "a", ""}, {"a", "a", ""}, {"a", "A", ""}, {"a", "aa", ""}, {"ab", "abab", ""}, {"ab", "BA", ""},
		{"a", "bc", "ACBabc"}, {"ab", "b", "BABabb"}, {"ab", "Ba", "BAAbaa"}, {"ab", "a", "BAba"},
		{"aA", "b", ""}, {"b", "cC", ""}, {"abB", "bAa", "ABab"}, {"ABab", "a", "BAbABaba"},
	} {
		eachLettersOf(c[0]+c[1], func(d int64) {
			got, code := impl.CommutatorWord(d, numbersOf(c[0]), numbersOf(c[1]))
			checkNumbers(t, "CommutatorWord "+c[0]+" and "+c[1], got, code, numbersOf(c[2]))
		})
	}
}

func TestLetterSums(t *testing.T) {
	for _, c := range []struct {
		d    int64
		text string
		want []int64
	}{
		{1, "", []int64{0}}, {2, "", []int64{0, 0}}, {3, "", []int64{0, 0, 0}},
		{1, "a", []int64{1}}, {1, "A", []int64{-1}}, {2, "a", []int64{1, 0}}, {2, "B", []int64{0, -1}}, {3, "C", []int64{0, 0, -1}},
		{1, "aA", []int64{0}}, {1, "aaAaa", []int64{3}}, {1, "AAaA", []int64{-2}}, {2, "aab", []int64{2, 1}}, {2, "aBa", []int64{2, -1}},
		{2, "abAB", []int64{0, 0}}, {3, "abAB", []int64{0, 0, 0}}, {3, "abccCaBcB", []int64{2, -1, 2}}, {3, "bCCb", []int64{0, 2, -2}},
		{1, "aaaaaaaaaaaa", []int64{12}}, {3, "CCCCCCCCCCCC", []int64{0, 0, -12}}, {2, "aaaaaaBBBBBB", []int64{6, -6}},
	} {
		got, code := impl.LetterSums(c.d, numbersOf(c.text))
		checkNumbers(t, "LetterSums "+c.text, got, code, c.want)
	}
}

func TestPathOfWord(t *testing.T) {
	for _, c := range []struct {
		d    int64
		text string
		want path
	}{
		{1, "", nil}, {3, "", nil}, {1, "a", path{{1}}}, {1, "A", path{{-1}}}, {2, "a", path{{1, 0}}}, {2, "B", path{{0, -1}}},
		{3, "c", path{{0, 0, 1}}}, {3, "B", path{{0, -1, 0}}}, {2, "aB", path{{1, 0}, {0, -1}}},
		// Paths have as many steps as words that are not reduced.
		{1, "aA", path{{1}, {-1}}}, {1, "aaA", path{{1}, {1}, {-1}}}, {2, "abBA", path{{1, 0}, {0, 1}, {0, -1}, {-1, 0}}},
		{3, "aCbA", path{{1, 0, 0}, {0, 0, -1}, {0, 1, 0}, {-1, 0, 0}}},
		{1, "aaaaaaaaaaaa", repeated(12, 1)}, {3, "CCCCCCCCCCCC", repeated(12, 0, 0, -1)},
	} {
		got, code := impl.PathOfWord(c.d, numbersOf(c.text))
		checkPath(t, "PathOfWord "+c.text, got, code, c.want)
	}
}

func TestAreEqualInGroup(t *testing.T) {
	long := strings.Repeat("a", impl.MaxGroup)
	for _, c := range []struct {
		v, w string
		want bool
	}{
		{"", "", true}, {"a", "a", true}, {"aB", "aB", true}, {"a", "bBa", true}, {"aA", "", true}, {"aA", "Bb", true},
		{"abBA", "cC", true}, {"abBc", "ac", true}, {long, long, true},
		{"abcabcCBACBA", "", true}, {"aAaAaAaAaAaA", "bBbBbBbBbBbB", true}, {"abababababab", "abababababab", true}, {"aaaaaaaaaaAa", "aaaaaaaaaa", true},
		{"a", "", false}, {"a", "A", false}, {"a", "b", false}, {"ab", "ba", false}, {"aa", "a", false}, {"abA", "b", false}, {"abBAb", "cbC", false}, {"abAB", "", false},
		{"aB", "Ab", false}, {"ab", "a", false}, {"ab", "b", false}, {"ba", "a", false},
		// What leads from one to the other would be more than a group word.
		{long, strings.ToUpper(long), false}, {long, strings.Repeat("b", impl.MaxGroup), false}, {long, long[1:], false}, {long, "b" + long[1:], false},
		{long, long[1:] + "b", false}, {"bbbbbbaaaaaa", "bbbbbaaaaaaa", false},
	} {
		eachLettersOf(c.v+c.w, func(d int64) {
			for _, pair := range [][2]string{{c.v, c.w}, {c.w, c.v}} {
				got, code := impl.AreEqualInGroup(d, numbersOf(pair[0]), numbersOf(pair[1]))
				if got != c.want || code != impl.ErrNone {
					t.Errorf("AreEqualInGroup(%d) of %s and %s = %v, %d", d, pair[0], pair[1], got, code)
				}
			}
		})
	}
}
