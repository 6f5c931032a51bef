package tests

import (
	"math"
	"math/big"
	"slices"
	"testing"

	"loop.example/g01260/impl"
)

// fr returns num / den as it is written, in lowest terms or not.
func fr(num int64, den int64) impl.Fraction {
	return impl.Fraction{Num: num, Den: den}
}

// zero is the fraction 0, which is not the zero value of its type.
var zero = fr(0, 1)

// bigOf returns a fraction as a number of the library.
func bigOf(a impl.Fraction) *big.Rat {
	return big.NewRat(a.Num, a.Den)
}

// fitted returns the fraction that a function has to return for an exact result, and its code.
func fitted(exact *big.Rat) (impl.Fraction, int64) {
	limit := big.NewInt(impl.MaxPart)
	if exact.Num().CmpAbs(limit) > 0 || exact.Denom().CmpAbs(limit) > 0 {
		return impl.Fraction{}, impl.ErrLimit
	}
	return fr(exact.Num().Int64(), exact.Denom().Int64()), impl.ErrNone
}

// sampleFractions returns fractions with small parts, and some with parts at the limits.
func sampleFractions() []impl.Fraction {
	var list []impl.Fraction
	for den := int64(1); den <= 7; den++ {
		for num := int64(-7); num <= 7; num++ {
			if a := fr(num, den); bigOf(a).Denom().Int64() == den {
				list = append(list, a)
			}
		}
	}
	const most = impl.MaxPart
	return append(list, fr(most, 1), fr(-most, 1), fr(1, most), fr(-1, most), fr(most, most-1),
		fr(most-1, most), fr(-most, most-1), fr(most-1, 1), fr(most/2, 1), fr(31623, 31622))
}

// notFractions returns values of the type that are no fractions.
func notFractions() []impl.Fraction {
	const most = impl.MaxPart
	return []impl.Fraction{
		{}, fr(0, 2), fr(0, -1), fr(1, 0), fr(1, -1), fr(-1, -1), fr(2, 4), fr(-2, 4), fr(6, 3),
		fr(most+1, 1), fr(-most-1, 1), fr(1, most+1), fr(most, most), fr(most, 2),
		fr(math.MinInt64, 1), fr(1, math.MinInt64), fr(math.MinInt64, math.MinInt64),
		fr(math.MaxInt64, 1), fr(1, math.MaxInt64), fr(math.MinInt64, math.MaxInt64),
	}
}

// seriesOf returns the series with a text, which has to be one.
func seriesOf(t *testing.T, d int64, n int64, text string) impl.Series {
	t.Helper()
	x, code := impl.ParseSeries(d, n, text)
	if code != impl.ErrNone {
		t.Fatalf("ParseSeries(%d, %d, %q): code %d", d, n, text, code)
	}
	return x
}

// sameSeries reports whether two series are equal.
func sameSeries(x impl.Series, y impl.Series) bool {
	return x.Letters == y.Letters && x.Level == y.Level && slices.Equal(x.Terms, y.Terms)
}

// checkSeries compares a result with the series that has a text.
func checkSeries(t *testing.T, name string, x impl.Series, code int64, d int64, n int64, text string) {
	t.Helper()
	if code != impl.ErrNone || !sameSeries(x, seriesOf(t, d, n, text)) {
		t.Errorf("%s = %v, %d, want %q", name, x, code, text)
	}
}

// checkSeriesError compares a result with an error code and the zero value beside it.
func checkSeriesError(t *testing.T, name string, x impl.Series, code int64, want int64) {
	t.Helper()
	if code != want || !sameSeries(x, impl.Series{}) {
		t.Errorf("%s = %v, %d, want the zero value and %d", name, x, code, want)
	}
}

// checkFraction compares a result with a fraction and a code.
func checkFraction(t *testing.T, name string, a impl.Fraction, code int64, want impl.Fraction, wantCode int64) {
	t.Helper()
	if a != want || code != wantCode {
		t.Errorf("%s = %v, %d, want %v, %d", name, a, code, want, wantCode)
	}
}

// levelsOf returns how many levels there are for d letters.
func levelsOf(d int64) int64 {
	if d == 3 {
		return 4
	}
	return 5
}

// allWords returns the words of at most n letters for d letters, in order.
func allWords(d int64, n int64) []string {
	words := []string{""}
	for last := 0; int64(len(words[len(words)-1])) < n; {
		from := last
		last = len(words)
		for _, w := range words[from:last] {
			for i := range d {
				words = append(words, w+string(rune('0'+i)))
			}
		}
	}
	return words
}

// mixedSeries returns a series with every word but each step-th, and values that differ with seed.
func mixedSeries(d int64, n int64, step int, seed int64) impl.Series {
	x := impl.Series{Letters: d, Level: n}
	for i, w := range allWords(d, n) {
		if i%step == step-1 {
			continue
		}
		value, _ := impl.FractionOf((int64(i)*seed+3)%11-5, (int64(i)+seed)%6+1)
		if value != zero {
			x.Terms = append(x.Terms, impl.Term{Word: w, Value: value})
		}
	}
	return x
}

// notSeries returns values of the type that are no series, by what is wrong with them.
func notSeries() map[string]impl.Series {
	one := fr(1, 1)
	term := func(w string, a impl.Fraction) impl.Term { return impl.Term{Word: w, Value: a} }
	of := func(d int64, n int64, terms ...impl.Term) impl.Series {
		return impl.Series{Letters: d, Level: n, Terms: terms}
	}
	return map[string]impl.Series{
		"zero value":           {},
		"no letters":           of(0, 2),
		"letters below 0":      of(-1, 2),
		"too many letters":     of(impl.MaxLetter+1, 2),
		"least letters":        of(math.MinInt64, 2),
		"most letters":         of(math.MaxInt64, 2),
		"no level":             of(2, 0),
		"level below 0":        of(2, -1),
		"too high a level":     of(2, impl.MaxLevel+1),
		"least level":          of(2, math.MinInt64),
		"most level":           of(2, math.MaxInt64, term("0", one)),
		"3 letters, level 5":   of(3, 5),
		"3 letters, level 6":   of(3, 6),
		"letter out of range":  of(2, 2, term("2", one)),
		"later letter":         of(2, 2, term("12", one)),
		"letter of 1":          of(1, 2, term("1", one)),
		"letter of 3":          of(3, 2, term("3", one)),
		"byte below the 0":     of(2, 2, term("/", one)),
		"no letter":            of(2, 2, term("a", one)),
		"blank":                of(2, 2, term(" ", one)),
		"letter beyond ASCII":  of(2, 4, term("\u0660", one)),
		"high byte":            of(2, 2, term("\xff", one)),
		"newline":              of(2, 2, term("0\n", one)),
		"word too long":        of(2, 2, term("000", one)),
		"word above level 1":   of(2, 1, term("0", one), term("00", one)),
		"value 0":              of(2, 2, term("0", zero)),
		"value of zeros":       of(2, 2, term("0", impl.Fraction{})),
		"value not lowest":     of(2, 2, term("0", fr(2, 2))),
		"value too large":      of(2, 2, term("0", fr(impl.MaxPart+1, 1))),
		"second value 0":       of(2, 2, term("0", one), term("1", zero)),
		"same word":            of(2, 2, term("0", one), term("0", one)),
		"same empty word":      of(2, 2, term("", one), term("", one)),
		"letters not in order": of(2, 2, term("1", one), term("0", one)),
		"empty word behind":    of(2, 2, term("0", one), term("", one)),
		"as texts only":        of(2, 2, term("0", one), term("00", one), term("1", one)),
		"order at the end":     of(2, 2, term("", one), term("01", one), term("00", one)),
	}
}
