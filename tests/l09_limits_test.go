package tests

import (
	"strings"
	"testing"

	"loop.example/g01260/impl"
)

// wordPair are two texts of group words, with the text of what a function makes of both, or noFit if it
// would be too long.
type wordPair struct{ v, w, want string }

// checkWordPairs compares results of a function of two group words.
func checkWordPairs(t *testing.T, name string, make func(d int64, v []int64, w []int64) ([]int64, int64), cases []wordPair) {
	t.Helper()
	for _, c := range cases {
		eachLettersOf(c.v+c.w, func(d int64) {
			got, code := make(d, numbersOf(c.v), numbersOf(c.w))
			what := name + " of " + c.v + " and " + c.w
			if c.want == noFit {
				checkNumbersError(t, what, got, code, impl.ErrLimit)
				return
			}
			checkNumbers(t, what, got, code, numbersOf(c.want))
		})
	}
}

func TestProductsOfGroupWordsAtTheLimit(t *testing.T) {
	a := func(times int) string { return strings.Repeat("a", times) }
	b := func(times int) string { return strings.Repeat("b", times) }
	checkWordPairs(t, "MultiplyWords", impl.MultiplyWords, []wordPair{
		{a(6), a(6), a(12)}, {a(7), a(6), noFit}, {a(6), a(7), noFit}, {a(12), a(12), noFit}, {a(12), "", a(12)}, {"", a(12), a(12)},
		{a(12), "a", noFit}, {"a", a(12), noFit}, {a(12), "b", noFit}, {"b", a(12), noFit}, {a(12), "A", a(11)}, {"A", a(12), a(11)},
		{a(6), b(6), a(6) + b(6)}, {a(6), b(7), noFit}, {"abcabc", "abcabc", "abcabcabcabc"}, {"abcabc", "abcabcC", "abcabcabcab"},
		// More numbers before they are reduced than after.
		{a(12), "AAAAAA" + b(6), a(6) + b(6)}, {a(12), "AAAAA" + b(7), noFit}, {a(12), "AAAAA" + b(6), noFit}, {a(12), "AAAAAA" + b(5), a(6) + b(5)},
		{a(12), strings.ToUpper(a(12)), ""}, {a(11), strings.ToUpper(a(12)), "A"}, {"abcabcabcabc", "CBACBACBACBA", ""},
		{"abcabcabcabc", "CBACBAabcabc", "abcabcabcabc"}, {"abcabcabcabc", "CBACBabcabca", noFit},
		// Words that are not reduced.
		{"aAaAaAaAaAaA", "bBbBbBbBbBbB", ""}, {a(12), "bBcCbBcCaAaA", a(12)}, {a(12), "bBcCbBcCaAa", noFit}, {"bBcCbBcCaAaA", a(12), a(12)},
		{"aAaAaAaAaAa", a(12), noFit}, {"aAaAaAaAaAaA", a(11), a(11)}, {a(10) + "bB", "Ccabc", noFit}, {a(10) + "bB", "Ccab", a(11) + "b"},
	})
}

// The numbers of a commutator add up to 0 for each letter, so that one that is too long has at least 2
// numbers more than MaxGroup.
func TestCommutatorsOfGroupWordsAtTheLimit(t *testing.T) {
	checkWordPairs(t, "CommutatorWord", impl.CommutatorWord, []wordPair{
		{"aaa", "bbb", "AAABBBaaabbb"}, {"aaa", "bbbb", noFit}, {"aaaa", "bbb", noFit}, {"abc", "cba", "CBAABCabccba"}, {"abc", "caba", noFit},
		{"aaaaaa", "bbbbbb", noFit}, {"a", "bbbbb", "ABBBBBabbbbb"}, {"a", "bbbbbb", noFit}, {"aaaaa", "b", "AAAAABaaaaab"}, {"aaaaaa", "b", noFit},
		{"aaaaaaaaaaaa", "b", noFit}, {"b", "aaaaaaaaaaaa", noFit}, {"ABab", "ab", "BAbaBAABabab"}, {"ABab", "c", "BAbaCABabc"}, {"ABab", "cc", "BAbaCCABabcc"},
		{"ABab", "ccc", noFit}, {"ABab", "ACac", noFit},
		// Words of MaxGroup numbers.
		{"aaaaaaaaaaaa", "aaaaaaaaaaaa", ""}, {"aaaaaaaaaaaa", "AAAAAAAAAAAA", ""}, {"aBcAbCaBcAbC", "aBcAbCaBcAbC", ""}, {"aBcAbCaBcAbC", "cBaCbAcBaCbA", ""},
		{"aBcAbCaBcAbC", "", ""}, {"", "aBcAbCaBcAbC", ""}, {"aBcAbCaBcAbC", "abcabcabcabc", noFit}, {"aAaAaAaAaAaA", "bbbbbbbbbbbb", ""},
		{"aAaAaAaAaAaA", "bBbBbBbBbBbB", ""}, {"aaabbbBBBccC", "bbbaaaAAAcCc", noFit}, {"aaabbbBBBcCb", "bbbaaaAAAcCB", "BAAABBaaabbb"},
		{"aaabbbBBBcCb", "bbbaaaAAAcCc", noFit}, {"aabcCAAaabBA", "bBbBbBbBbBbb", "aBAABBaabAbb"}, {"aabcCAAaabBA", "bBbBbBbBbbbb", noFit},
		// Long words that are nearly the inverses of each other, or of themselves.
		{"bbbbbaBBBBB", "b", "bbbbbABaBBBB"}, {"bbbbbbaBBBBB", "b", "bbbbbABaBBBB"}, {"bbbbbaBBBBBB", "b", noFit},
	})
}
