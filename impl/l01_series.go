package impl

import (
	"cmp"
	"slices"
	"strconv"
	"strings"
)

// Error codes of chapter 1. Their order is that of the document, where ErrNone is 0.
const (
	ErrNone = iota
	ErrInvalid
	ErrRange
	ErrLimit
	ErrNotFound
	ErrState
	ErrSyntax
)

// Limits of chapter 1.
const (
	MaxPart   = 1000000000
	MaxLetter = 3
	MaxLevel  = 5
)

// maxOperand is the limit of the numbers that FractionOf takes.
const maxOperand = 1000000000000000000

// Fraction is described in chapter 1.
type Fraction struct {
	Num int64
	Den int64
}

// Term is described in chapter 1.
type Term struct {
	Word  string
	Value Fraction
}

// Series is described in chapter 1.
type Series struct {
	Letters int64
	Level   int64
	Terms   []Term
}

// IsFraction reports whether a is a fraction.
func IsFraction(a Fraction) bool {
	if !isBetween(a.Num, -MaxPart, MaxPart) || !isBetween(a.Den, 1, MaxPart) {
		return false
	}
	return commonDivisor(a.Num, a.Den) == 1
}

// FractionOf returns num / den, both with absolute values of at most 10^18, in lowest terms, and
// ErrNone. (ErrInvalid is not returned.) Errors: ErrState if den is 0.
func FractionOf(num int64, den int64) (Fraction, int64) {
	if !isBetween(num, -maxOperand, maxOperand) || !isBetween(den, -maxOperand, maxOperand) {
		return Fraction{}, ErrRange
	}
	if den == 0 {
		return Fraction{}, ErrState
	}
	return lowestTerms(num, den)
}

// AddFractions returns the sum, and ErrNone.
func AddFractions(a Fraction, b Fraction) (Fraction, int64) {
	if !IsFraction(a) || !IsFraction(b) {
		return Fraction{}, ErrInvalid
	}
	return lowestTerms(a.Num*b.Den+b.Num*a.Den, a.Den*b.Den)
}

// MultiplyFractions returns the product, and ErrNone.
func MultiplyFractions(a Fraction, b Fraction) (Fraction, int64) {
	if !IsFraction(a) || !IsFraction(b) {
		return Fraction{}, ErrInvalid
	}
	return lowestTerms(a.Num*b.Num, a.Den*b.Den)
}

// DivideFractions returns a divided by b, and ErrNone. Errors: ErrState if b is 0.
func DivideFractions(a Fraction, b Fraction) (Fraction, int64) {
	if !IsFraction(a) || !IsFraction(b) {
		return Fraction{}, ErrInvalid
	}
	if isZero(b) {
		return Fraction{}, ErrState
	}
	return lowestTerms(a.Num*b.Den, a.Den*b.Num)
}

// WordsOf returns all words of n letters for d letters, n in 0..MaxLevel, in order, and ErrNone.
// (ErrInvalid is not returned.)
func WordsOf(d int64, n int64) ([]string, int64) {
	if !isBetween(d, 1, MaxLetter) || !isBetween(n, 0, MaxLevel) {
		return nil, ErrRange
	}
	words := []string{""}
	for range n {
		words = withNextLetter(d, words)
	}
	return words, ErrNone
}

// NumberOfWord returns the number of a word of at most MaxLevel letters for d letters, and
// ErrNone. (ErrInvalid is not returned.)
func NumberOfWord(d int64, w string) (int64, int64) {
	if !isBetween(d, 1, MaxLetter) || !isWord(d, MaxLevel, w) {
		return 0, ErrRange
	}
	number := int64(0)
	for i := range len(w) {
		// The 1 is for the beginning of w itself, which comes ahead of what goes on.
		number = number*d + int64(w[i]-'0') + 1
	}
	return number, ErrNone
}

// WordOfNumber returns the word with the number k for d letters, if it has at most MaxLevel
// letters, and ErrNone. (ErrInvalid is not returned.) Errors: ErrRange also if it has more.
func WordOfNumber(d int64, k int64) (string, int64) {
	if !isBetween(d, 1, MaxLetter) || !isBetween(k, 0, countWords(d)-1) {
		return "", ErrRange
	}
	word := ""
	for k > 0 {
		// This undoes a step of NumberOfWord, from the last letter on.
		word = letterWord((k-1)%d) + word
		k = (k - 1) / d
	}
	return word, ErrNone
}

// IsSeries reports whether x is a series.
func IsSeries(x Series) bool {
	if !isShape(x.Letters, x.Level) {
		return false
	}
	for i, t := range x.Terms {
		if !isWord(x.Letters, x.Level, t.Word) || !IsFraction(t.Value) || isZero(t.Value) {
			return false
		}
		if i > 0 && compareWords(x.Terms[i-1].Word, t.Word) >= 0 {
			return false
		}
	}
	return true
}

// CoefficientOf returns the coefficient of a word w of at most Level letters, and ErrNone.
func CoefficientOf(x Series, w string) (Fraction, int64) {
	if !IsSeries(x) {
		return Fraction{}, ErrInvalid
	}
	if !isWord(x.Letters, x.Level, w) {
		return Fraction{}, ErrRange
	}
	i, found := findTerm(x.Terms, w)
	if !found {
		return Fraction{Den: 1}, ErrNone
	}
	return x.Terms[i].Value, ErrNone
}

// LetterSeries returns the series of the letter i for d letters and the Level n, and ErrNone.
// (ErrInvalid is not returned.)
func LetterSeries(d int64, n int64, i int64) (Series, int64) {
	if !isShape(d, n) || !isBetween(i, 0, d-1) {
		return Series{}, ErrRange
	}
	letter := Term{Word: letterWord(i), Value: Fraction{Num: 1, Den: 1}}
	return newSeries(d, n, []Term{letter}), ErrNone
}

// AddSeries returns the sum, and ErrNone.
func AddSeries(x Series, y Series) (Series, int64) {
	if !IsSeries(x) || !IsSeries(y) {
		return Series{}, ErrInvalid
	}
	if !areAlike(x, y) {
		return Series{}, ErrRange
	}
	terms, code := addTerms(x.Terms, y.Terms)
	if code != ErrNone {
		return Series{}, code
	}
	return newSeries(x.Letters, x.Level, terms), ErrNone
}

// ScaleSeries returns the multiple of x by a, and ErrNone.
func ScaleSeries(x Series, a Fraction) (Series, int64) {
	if !IsSeries(x) || !IsFraction(a) {
		return Series{}, ErrInvalid
	}
	multiples, code := multiplesOf(x.Terms, a)
	if code != ErrNone {
		return Series{}, code
	}
	var terms []Term
	for _, t := range x.Terms {
		if value := multiples[t.Value]; !isZero(value) {
			terms = append(terms, Term{Word: t.Word, Value: value})
		}
	}
	return newSeries(x.Letters, x.Level, terms), ErrNone
}

// PartOf returns the part of the length n, in 0..MaxLevel, and ErrNone.
func PartOf(x Series, n int64) (Series, int64) {
	if !IsSeries(x) {
		return Series{}, ErrInvalid
	}
	if !isBetween(n, 0, MaxLevel) {
		return Series{}, ErrRange
	}
	return newSeries(x.Letters, x.Level, termsOfLength(x.Terms, n)), ErrNone
}

// PutTerm returns x with a as the coefficient of a word w of at most Level letters, and ErrNone.
func PutTerm(x Series, w string, a Fraction) (Series, int64) {
	if !IsSeries(x) || !IsFraction(a) {
		return Series{}, ErrInvalid
	}
	if !isWord(x.Letters, x.Level, w) {
		return Series{}, ErrRange
	}
	return newSeries(x.Letters, x.Level, replaceTerm(x.Terms, Term{Word: w, Value: a})), ErrNone
}

// FractionText returns the text of a, and ErrNone.
func FractionText(a Fraction) (string, int64) {
	if !IsFraction(a) {
		return "", ErrInvalid
	}
	return strconv.FormatInt(a.Num, 10) + "/" + strconv.FormatInt(a.Den, 10), ErrNone
}

// ParseFraction returns the fraction with a text, and ErrNone. Errors: ErrSyntax if there is none.
// (No other errors are returned.)
func ParseFraction(text string) (Fraction, int64) {
	before, behind, _ := strings.Cut(text, "/")
	num, numErr := strconv.ParseInt(before, 10, 64)
	den, denErr := strconv.ParseInt(behind, 10, 64)
	if numErr != nil || denErr != nil {
		return Fraction{}, ErrSyntax
	}
	a := Fraction{Num: num, Den: den}
	// ParseInt also takes signs and zeros that no text of a fraction has.
	if own, code := FractionText(a); code != ErrNone || own != text {
		return Fraction{}, ErrSyntax
	}
	return a, ErrNone
}

// SeriesText returns the text of x, and ErrNone.
func SeriesText(x Series) (string, int64) {
	if !IsSeries(x) {
		return "", ErrInvalid
	}
	if len(x.Terms) == 0 {
		return "0", ErrNone
	}
	texts := make([]string, len(x.Terms))
	for i, t := range x.Terms {
		value, _ := FractionText(t.Value)
		texts[i] = value + "*" + t.Word
	}
	return strings.Join(texts, "+"), ErrNone
}

// ParseSeries returns the series for d letters and the Level n with a text, and ErrNone.
// (ErrInvalid is not returned.) Errors: ErrSyntax if there is none.
func ParseSeries(d int64, n int64, text string) (Series, int64) {
	if !isShape(d, n) {
		return Series{}, ErrRange
	}
	terms, ok := parseTerms(text)
	if !ok || !IsSeries(Series{Letters: d, Level: n, Terms: terms}) {
		return Series{}, ErrSyntax
	}
	return newSeries(d, n, terms), ErrNone
}

// isBetween reports whether a number is in low..high.
func isBetween(number int64, low int64, high int64) bool {
	return low <= number && number <= high
}

// commonDivisor returns the greatest common divisor of a number and one greater than 0.
func commonDivisor(a int64, b int64) int64 {
	if a < 0 {
		a = -a
	}
	for b != 0 {
		a, b = b, a%b
	}
	return a
}

// lowestTerms returns num / den, den not being 0, or ErrLimit if it does not fit. Numbers up to
// twice maxOperand, as sums have them, do not overflow.
func lowestTerms(num int64, den int64) (Fraction, int64) {
	if den < 0 {
		num, den = -num, -den
	}
	divisor := commonDivisor(num, den)
	a := Fraction{Num: num / divisor, Den: den / divisor}
	if !IsFraction(a) {
		return Fraction{}, ErrLimit
	}
	return a, ErrNone
}

// isZero reports whether a fraction is 0.
func isZero(a Fraction) bool {
	return a == Fraction{Den: 1}
}

// letterWord returns the word of the letter i alone.
func letterWord(i int64) string {
	return strconv.FormatInt(i, 10)
}

// withNextLetter returns the words that are one of d letters longer than given ones, in order if
// these are.
func withNextLetter(d int64, words []string) []string {
	var longer []string
	for _, w := range words {
		for i := range d {
			longer = append(longer, w+letterWord(i))
		}
	}
	return longer
}

// countWords returns the number of the words of at most MaxLevel letters for d letters.
func countWords(d int64) int64 {
	count := int64(1)
	for range MaxLevel {
		count = count*d + 1
	}
	return count
}

// isWord reports whether w is a word of at most n letters for d letters.
func isWord(d int64, n int64, w string) bool {
	return int64(len(w)) <= n && areLetters(d, w)
}

// areLetters reports whether a text has none but d letters.
func areLetters(d int64, text string) bool {
	for i := range len(text) {
		if text[i] < '0' || int64(text[i]-'0') >= d {
			return false
		}
	}
	return true
}

// compareWords compares words in their order.
func compareWords(v string, w string) int {
	return cmp.Or(cmp.Compare(len(v), len(w)), strings.Compare(v, w))
}

// isShape reports whether a series may have d letters and the Level n.
func isShape(d int64, n int64) bool {
	if d == MaxLetter && n == MaxLevel {
		return false
	}
	return isBetween(d, 1, MaxLetter) && isBetween(n, 1, MaxLevel)
}

// areAlike reports whether series are alike.
func areAlike(x Series, y Series) bool {
	return x.Letters == y.Letters && x.Level == y.Level
}

// newSeries returns a series with copies of terms. Every series of a result is made here, so that
// none shares memory with an argument.
func newSeries(d int64, n int64, terms []Term) Series {
	return Series{Letters: d, Level: n, Terms: newTerms(terms)}
}

// newTerms returns copies of terms, which do not even share the memory of a text that a word was cut
// from.
func newTerms(terms []Term) []Term {
	list := make([]Term, len(terms))
	for i, t := range terms {
		list[i] = Term{Word: strings.Clone(t.Word), Value: t.Value}
	}
	return list
}

// findTerm returns the index of the term with a word, or that at which it would stand, and whether
// there is one.
func findTerm(terms []Term, w string) (int, bool) {
	return slices.BinarySearchFunc(terms, w, func(t Term, w string) int {
		return compareWords(t.Word, w)
	})
}

// addTerms returns the terms of the sum of two series with given terms.
func addTerms(x []Term, y []Term) ([]Term, int64) {
	var terms []Term
	for len(x) > 0 && len(y) > 0 {
		order := compareWords(x[0].Word, y[0].Word)
		if order < 0 {
			terms, x = append(terms, x[0]), x[1:]
			continue
		}
		if order > 0 {
			terms, y = append(terms, y[0]), y[1:]
			continue
		}
		sum, code := AddFractions(x[0].Value, y[0].Value)
		if code != ErrNone {
			return nil, code
		}
		if !isZero(sum) {
			terms = append(terms, Term{Word: x[0].Word, Value: sum})
		}
		x, y = x[1:], y[1:]
	}
	return slices.Concat(terms, x, y), ErrNone
}

// multiplesOf returns the product by a of each value that terms have. Equal values, of which the
// series of signatures have many, are multiplied once.
func multiplesOf(terms []Term, a Fraction) (map[Fraction]Fraction, int64) {
	multiples := map[Fraction]Fraction{}
	for _, t := range terms {
		if _, known := multiples[t.Value]; known {
			continue
		}
		product, code := MultiplyFractions(t.Value, a)
		if code != ErrNone {
			return nil, code
		}
		multiples[t.Value] = product
	}
	return multiples, ErrNone
}

// termsOfLength returns the slice of those terms whose words have n letters, without the terms
// behind them as spare capacity.
func termsOfLength(terms []Term, n int64) []Term {
	from, to := indexOfLength(terms, n), indexOfLength(terms, n+1)
	return terms[from:to:to]
}

// indexOfLength returns the index of the first term whose word has at least n letters, or the
// number of terms if there is none.
func indexOfLength(terms []Term, n int64) int {
	i, _ := slices.BinarySearchFunc(terms, n, func(t Term, n int64) int {
		return cmp.Compare(int64(len(t.Word)), n)
	})
	return i
}

// replaceTerm returns terms with one that is put at its place, or without one for its word if its
// value is 0.
func replaceTerm(terms []Term, put Term) []Term {
	i, found := findTerm(terms, put.Word)
	// The head ends at its capacity, so that appending to it leaves the given terms as they are.
	head, tail := terms[:i:i], terms[i:]
	if found {
		tail = tail[1:]
	}
	if !isZero(put.Value) {
		head = append(head, put)
	}
	return append(head, tail...)
}

// parseTerms returns the terms that a text lists, and whether it lists terms. It leaves their words
// and their order unchecked.
func parseTerms(text string) ([]Term, bool) {
	if text == "0" {
		return nil, true
	}
	var terms []Term
	for piece := range strings.SplitSeq(text, "+") {
		value, word, found := strings.Cut(piece, "*")
		a, code := ParseFraction(value)
		if !found || code != ErrNone {
			return nil, false
		}
		terms = append(terms, Term{Word: word, Value: a})
	}
	return terms, true
}
