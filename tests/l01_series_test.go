package tests

import (
	"math"
	"math/big"
	"testing"

	"loop.example/g01260/impl"
)

func TestIsSeries(t *testing.T) {
	for d := int64(1); d <= impl.MaxLetter; d++ {
		for n := int64(1); n <= levelsOf(d); n++ {
			x := impl.Series{Letters: d, Level: n}
			if !impl.IsSeries(x) {
				t.Errorf("IsSeries(%v) = false", x)
			}
			x.Terms = []impl.Term{}
			if !impl.IsSeries(x) {
				t.Errorf("IsSeries(%v) = false", x)
			}
			for _, w := range allWords(d, n) {
				x.Terms = append(x.Terms, impl.Term{Word: w, Value: fr(-impl.MaxPart, 1)})
			}
			if !impl.IsSeries(x) {
				t.Errorf("IsSeries of all words for %d and %d = false", d, n)
			}
		}
	}
	for name, x := range notSeries() {
		if impl.IsSeries(x) {
			t.Errorf("IsSeries, %s: %v = true", name, x)
		}
	}
}

func TestCoefficientOf(t *testing.T) {
	for d := int64(1); d <= impl.MaxLetter; d++ {
		x := mixedSeries(d, levelsOf(d), 3, 4)
		want := map[string]impl.Fraction{}
		for _, term := range x.Terms {
			want[term.Word] = term.Value
		}
		for _, w := range allWords(d, levelsOf(d)) {
			value, found := want[w]
			if !found {
				value = zero
			}
			got, code := impl.CoefficientOf(x, w)
			checkFraction(t, "CoefficientOf "+w, got, code, value, impl.ErrNone)
		}
	}
	got, code := impl.CoefficientOf(impl.Series{Letters: 3, Level: 4}, "")
	checkFraction(t, "CoefficientOf without terms", got, code, zero, impl.ErrNone)
}

// shapedWord is a word that does not belong to d letters and the level n.
type shapedWord struct {
	d, n int64
	w    string
}

// wordsOfOtherShapes returns words that exceed the letters alone, or the level alone, by one.
func wordsOfOtherShapes() []shapedWord {
	return []shapedWord{{1, 3, "1"}, {1, 3, "0000"}, {2, 3, "2"}, {2, 4, "0002"}, {2, 1, "00"}, {2, 5, "000000"},
		{3, 1, "00"}, {3, 2, "222"}, {3, 4, "3"}, {3, 4, "00000"}}
}

func TestCoefficientOfErrors(t *testing.T) {
	none := impl.Fraction{}
	for name, x := range notSeries() {
		for _, w := range []string{"", "0", "x", "000000"} {
			got, code := impl.CoefficientOf(x, w)
			checkFraction(t, "CoefficientOf, "+name, got, code, none, impl.ErrInvalid)
		}
	}
	x := seriesOf(t, 2, 2, "1/1*0")
	for _, w := range []string{"000", "2", "a", "0 ", "-", "/", "00000000"} {
		got, code := impl.CoefficientOf(x, w)
		checkFraction(t, "CoefficientOf "+w, got, code, none, impl.ErrRange)
	}
	for _, c := range wordsOfOtherShapes() {
		got, code := impl.CoefficientOf(seriesOf(t, c.d, c.n, "1/1*0"), c.w)
		checkFraction(t, "CoefficientOf "+c.w, got, code, none, impl.ErrRange)
	}
}

func TestLetterSeries(t *testing.T) {
	for d := int64(-1); d <= impl.MaxLetter+1; d++ {
		for n := int64(-1); n <= impl.MaxLevel+1; n++ {
			for i := int64(-1); i <= impl.MaxLetter+1; i++ {
				x, code := impl.LetterSeries(d, n, i)
				if d < 1 || d > 3 || n < 1 || n > levelsOf(d) || i < 0 || i >= d {
					checkSeriesError(t, "LetterSeries", x, code, impl.ErrRange)
					continue
				}
				checkSeries(t, "LetterSeries", x, code, d, n, "1/1*"+string(rune('0'+i)))
			}
		}
	}
	for _, bad := range []int64{math.MinInt64, math.MaxInt64} {
		x, code := impl.LetterSeries(bad, 2, 0)
		checkSeriesError(t, "LetterSeries", x, code, impl.ErrRange)
		x, code = impl.LetterSeries(2, bad, 0)
		checkSeriesError(t, "LetterSeries", x, code, impl.ErrRange)
		x, code = impl.LetterSeries(2, 2, bad)
		checkSeriesError(t, "LetterSeries", x, code, impl.ErrRange)
	}
}

func TestAddSeries(t *testing.T) {
	cases := []struct{ x, y, want string }{
		{"0", "0", "0"},
		{"1/2*+2/1*0+-1/3*01", "0", "1/2*+2/1*0+-1/3*01"},
		{"0", "1/2*+2/1*0+-1/3*01", "1/2*+2/1*0+-1/3*01"},
		{"1/2*+2/1*0+-1/3*01", "-2/1*0+1/1*1", "1/2*+1/1*1+-1/3*01"},
		{"1/2*", "-1/2*", "0"},
		{"1/2*1+1/1*00", "-1/2*1+-1/1*00", "0"},
		{"1/2*1", "1/3*1", "5/6*1"},
		{"1/1*1", "1/1*00", "1/1*1+1/1*00"},
		{"1/1*0+1/1*11", "1/1*+1/1*1+1/1*00", "1/1*+1/1*0+1/1*1+1/1*00+1/1*11"},
		{"1000000000/1*0", "-1000000000/1*0", "0"},
		{"999999999/1*0", "1/1*0", "1000000000/1*0"},
	}
	for _, c := range cases {
		x, y := seriesOf(t, 2, 2, c.x), seriesOf(t, 2, 2, c.y)
		z, code := impl.AddSeries(x, y)
		checkSeries(t, "AddSeries "+c.x+" and "+c.y, z, code, 2, 2, c.want)
		z, code = impl.AddSeries(y, x)
		checkSeries(t, "AddSeries "+c.y+" and "+c.x, z, code, 2, 2, c.want)
	}
}

func TestAddSeriesErrors(t *testing.T) {
	x := seriesOf(t, 2, 2, "1/1*0")
	for name, bad := range notSeries() {
		z, code := impl.AddSeries(bad, x)
		checkSeriesError(t, "AddSeries, "+name, z, code, impl.ErrInvalid)
		z, code = impl.AddSeries(x, bad)
		checkSeriesError(t, "AddSeries, "+name, z, code, impl.ErrInvalid)
		z, code = impl.AddSeries(bad, bad)
		checkSeriesError(t, "AddSeries, "+name, z, code, impl.ErrInvalid)
	}
	large := seriesOf(t, 2, 2, "1/1*+1000000000/1*0+1/1*11")
	for _, other := range []impl.Series{seriesOf(t, 2, 3, "0"), seriesOf(t, 2, 1, "1000000000/1*0"),
		seriesOf(t, 3, 2, "1000000000/1*0"), seriesOf(t, 1, 2, "1000000000/1*0"), seriesOf(t, 1, 1, "0")} {
		z, code := impl.AddSeries(large, other)
		checkSeriesError(t, "AddSeries, not alike", z, code, impl.ErrRange)
		z, code = impl.AddSeries(other, large)
		checkSeriesError(t, "AddSeries, not alike", z, code, impl.ErrRange)
	}
	for _, text := range []string{"1/1*0", "1/2*0", "1000000000/1*0", "1/1*+1/7*0+1/1*1"} {
		z, code := impl.AddSeries(large, seriesOf(t, 2, 2, text))
		checkSeriesError(t, "AddSeries, too large", z, code, impl.ErrLimit)
	}
	z, code := impl.AddSeries(seriesOf(t, 2, 2, "1/1000000000*11"), seriesOf(t, 2, 2, "1/999999999*11"))
	checkSeriesError(t, "AddSeries, too fine", z, code, impl.ErrLimit)
}

func TestSumsAreMadeForEachWord(t *testing.T) {
	for d := int64(1); d <= impl.MaxLetter; d++ {
		for n := int64(1); n <= levelsOf(d); n++ {
			x, y := mixedSeries(d, n, 3, 4), mixedSeries(d, n, 5, 7)
			z, code := impl.AddSeries(x, y)
			turned, turnedCode := impl.AddSeries(y, x)
			if code != impl.ErrNone || turnedCode != impl.ErrNone || !impl.IsSeries(z) || !sameSeries(z, turned) {
				t.Fatalf("AddSeries = %v, %d, and turned %v, %d", z, code, turned, turnedCode)
			}
			if z.Letters != d || z.Level != n {
				t.Errorf("AddSeries has %d letters and the level %d", z.Letters, z.Level)
			}
			for _, w := range allWords(d, n) {
				a, _ := impl.CoefficientOf(x, w)
				b, _ := impl.CoefficientOf(y, w)
				want, wantCode := fitted(new(big.Rat).Add(bigOf(a), bigOf(b)))
				got, code := impl.CoefficientOf(z, w)
				checkFraction(t, "the sum at "+w, got, code, want, wantCode)
			}
		}
	}
}

func TestSumsDoNotDependOnTheOrder(t *testing.T) {
	x, y, z := mixedSeries(2, 4, 3, 4), mixedSeries(2, 4, 5, 7), mixedSeries(2, 4, 2, 9)
	xy, _ := impl.AddSeries(x, y)
	yz, _ := impl.AddSeries(y, z)
	left, leftCode := impl.AddSeries(xy, z)
	right, rightCode := impl.AddSeries(x, yz)
	if leftCode != impl.ErrNone || rightCode != impl.ErrNone || !sameSeries(left, right) {
		t.Errorf("sums %v, %d and %v, %d", left, leftCode, right, rightCode)
	}
	opposite, _ := impl.ScaleSeries(x, fr(-1, 1))
	nothing, code := impl.AddSeries(x, opposite)
	checkSeries(t, "a series and its opposite", nothing, code, 2, 4, "0")
}

func TestScaleSeries(t *testing.T) {
	x := seriesOf(t, 2, 2, "1/2*+2/1*0+1/2*1+-1/3*01")
	cases := []struct {
		a    impl.Fraction
		want string
	}{
		{fr(6, 1), "3/1*+12/1*0+3/1*1+-2/1*01"},
		{fr(-1, 2), "-1/4*+-1/1*0+-1/4*1+1/6*01"},
		{fr(1, 1), "1/2*+2/1*0+1/2*1+-1/3*01"},
		{zero, "0"},
		{fr(500000000, 1), "250000000/1*+1000000000/1*0+250000000/1*1+-500000000/3*01"},
	}
	for _, c := range cases {
		z, code := impl.ScaleSeries(x, c.a)
		checkSeries(t, "ScaleSeries", z, code, 2, 2, c.want)
	}
	z, code := impl.ScaleSeries(seriesOf(t, 3, 4, "0"), fr(impl.MaxPart, 1))
	checkSeries(t, "ScaleSeries without terms", z, code, 3, 4, "0")
	for _, a := range []impl.Fraction{fr(500000001, 1), fr(1, impl.MaxPart), fr(impl.MaxPart, 7)} {
		z, code = impl.ScaleSeries(x, a)
		checkSeriesError(t, "ScaleSeries, too large", z, code, impl.ErrLimit)
	}
	z, code = impl.ScaleSeries(seriesOf(t, 1, 1, "1/1*+1000000000/1*0"), fr(2, 1))
	checkSeriesError(t, "ScaleSeries, the last term", z, code, impl.ErrLimit)
}

func TestMultiplesAreMadeForEachWord(t *testing.T) {
	for d := int64(1); d <= impl.MaxLetter; d++ {
		x := mixedSeries(d, levelsOf(d), 3, 4)
		for _, a := range []impl.Fraction{fr(1, 7), fr(-3, 1), fr(5, 4)} {
			z, code := impl.ScaleSeries(x, a)
			if code != impl.ErrNone || len(z.Terms) != len(x.Terms) || !impl.IsSeries(z) {
				t.Fatalf("ScaleSeries = %v, %d", z, code)
			}
			for i, term := range x.Terms {
				want, _ := fitted(new(big.Rat).Mul(bigOf(term.Value), bigOf(a)))
				if z.Terms[i] != (impl.Term{Word: term.Word, Value: want}) {
					t.Errorf("ScaleSeries at %q = %v, want %v", term.Word, z.Terms[i], want)
				}
			}
		}
	}
}

func TestScaleSeriesErrors(t *testing.T) {
	for name, x := range notSeries() {
		z, code := impl.ScaleSeries(x, fr(1, 2))
		checkSeriesError(t, "ScaleSeries, "+name, z, code, impl.ErrInvalid)
		z, code = impl.ScaleSeries(x, impl.Fraction{})
		checkSeriesError(t, "ScaleSeries, "+name, z, code, impl.ErrInvalid)
	}
	for _, text := range []string{"0", "1/1*0", "1000000000/1*0"} {
		for _, a := range notFractions() {
			z, code := impl.ScaleSeries(seriesOf(t, 2, 2, text), a)
			checkSeriesError(t, "ScaleSeries", z, code, impl.ErrInvalid)
		}
	}
}

func TestPartOf(t *testing.T) {
	x := seriesOf(t, 2, 3, "1/2*+2/1*0+-1/3*1+1/1*010+5/1*111")
	for n, want := range []string{"1/2*", "2/1*0+-1/3*1", "0", "1/1*010+5/1*111", "0", "0"} {
		z, code := impl.PartOf(x, int64(n))
		checkSeries(t, "PartOf", z, code, 2, 3, want)
	}
	for n := range int64(6) {
		z, code := impl.PartOf(seriesOf(t, 3, 1, "0"), n)
		checkSeries(t, "PartOf without terms", z, code, 3, 1, "0")
	}
}

func TestPartsAddUp(t *testing.T) {
	for d := int64(1); d <= impl.MaxLetter; d++ {
		for n := int64(1); n <= levelsOf(d); n++ {
			x := mixedSeries(d, n, 4, 5)
			sum := impl.Series{Letters: d, Level: n}
			for k := range int64(impl.MaxLevel + 1) {
				part, code := impl.PartOf(x, k)
				if code != impl.ErrNone || !impl.IsSeries(part) {
					t.Fatalf("PartOf(%v, %d) = %v, %d", x, k, part, code)
				}
				for _, term := range part.Terms {
					if int64(len(term.Word)) != k {
						t.Errorf("PartOf(%d) has the word %q", k, term.Word)
					}
				}
				sum, _ = impl.AddSeries(sum, part)
			}
			if !sameSeries(sum, x) {
				t.Errorf("the parts add up to %v, want %v", sum, x)
			}
		}
	}
}

func TestPartOfErrors(t *testing.T) {
	for name, x := range notSeries() {
		for _, n := range []int64{0, 1, -1, 6} {
			z, code := impl.PartOf(x, n)
			checkSeriesError(t, "PartOf, "+name, z, code, impl.ErrInvalid)
		}
	}
	for _, n := range []int64{math.MinInt64, -1, impl.MaxLevel + 1, math.MaxInt64} {
		z, code := impl.PartOf(seriesOf(t, 2, 5, "1/1*0"), n)
		checkSeriesError(t, "PartOf", z, code, impl.ErrRange)
	}
}

func TestPutTerm(t *testing.T) {
	text := "1/2*+2/1*0+-1/3*01"
	x := seriesOf(t, 2, 2, text)
	cases := []struct {
		w    string
		a    impl.Fraction
		want string
	}{
		{"", fr(7, 1), "7/1*+2/1*0+-1/3*01"},
		{"0", fr(7, 1), "1/2*+7/1*0+-1/3*01"},
		{"01", fr(7, 1), "1/2*+2/1*0+7/1*01"},
		{"1", fr(7, 1), "1/2*+2/1*0+7/1*1+-1/3*01"},
		{"00", fr(7, 1), "1/2*+2/1*0+7/1*00+-1/3*01"},
		{"11", fr(-7, 2), "1/2*+2/1*0+-1/3*01+-7/2*11"},
		{"", zero, "2/1*0+-1/3*01"},
		{"0", zero, "1/2*+-1/3*01"},
		{"01", zero, "1/2*+2/1*0"},
		{"1", zero, text},
		{"11", zero, text},
		{"0", fr(2, 1), text},
		{"1", fr(impl.MaxPart, 1), "1/2*+2/1*0+1000000000/1*1+-1/3*01"},
	}
	for _, c := range cases {
		z, code := impl.PutTerm(x, c.w, c.a)
		checkSeries(t, "PutTerm "+c.w, z, code, 2, 2, c.want)
	}
	z, code := impl.PutTerm(seriesOf(t, 3, 4, "0"), "", fr(1, 3))
	checkSeries(t, "PutTerm without terms", z, code, 3, 4, "1/3*")
	z, code = impl.PutTerm(seriesOf(t, 3, 4, "0"), "2222", zero)
	checkSeries(t, "PutTerm without terms", z, code, 3, 4, "0")
	z, code = impl.PutTerm(seriesOf(t, 1, 1, "1/3*"), "", zero)
	checkSeries(t, "PutTerm of the only term", z, code, 1, 1, "0")
}

func TestPutTermsMakeTheSeries(t *testing.T) {
	for d := int64(1); d <= impl.MaxLetter; d++ {
		x := mixedSeries(d, levelsOf(d), 3, 4)
		z := impl.Series{Letters: d, Level: levelsOf(d)}
		// Steps of 7 lead through all places, as their numbers are no multiples of 7.
		for i := range x.Terms {
			term := x.Terms[i*7%len(x.Terms)]
			z, _ = impl.PutTerm(z, term.Word, term.Value)
		}
		if len(x.Terms)%7 == 0 || !sameSeries(x, z) {
			t.Errorf("the terms put make %v, want %v", z, x)
		}
		for _, term := range x.Terms {
			z, _ = impl.PutTerm(z, term.Word, zero)
		}
		if len(z.Terms) != 0 {
			t.Errorf("without all terms there is %v", z)
		}
	}
}

func TestPutTermErrors(t *testing.T) {
	for name, x := range notSeries() {
		z, code := impl.PutTerm(x, "0", fr(1, 2))
		checkSeriesError(t, "PutTerm, "+name, z, code, impl.ErrInvalid)
		z, code = impl.PutTerm(x, "x", impl.Fraction{})
		checkSeriesError(t, "PutTerm, "+name, z, code, impl.ErrInvalid)
	}
	x := seriesOf(t, 2, 2, "1/1*0")
	for _, a := range notFractions() {
		for _, w := range []string{"", "0", "000", "2", "x"} {
			z, code := impl.PutTerm(x, w, a)
			checkSeriesError(t, "PutTerm "+w, z, code, impl.ErrInvalid)
		}
	}
	for _, w := range []string{"000", "2", "a", "0 ", "/", "02"} {
		z, code := impl.PutTerm(x, w, fr(1, 2))
		checkSeriesError(t, "PutTerm "+w, z, code, impl.ErrRange)
		z, code = impl.PutTerm(x, w, zero)
		checkSeriesError(t, "PutTerm "+w, z, code, impl.ErrRange)
	}
	for _, c := range wordsOfOtherShapes() {
		z, code := impl.PutTerm(seriesOf(t, c.d, c.n, "1/1*0"), c.w, fr(1, 2))
		checkSeriesError(t, "PutTerm "+c.w, z, code, impl.ErrRange)
	}
}
