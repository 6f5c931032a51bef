package tests

import (
	"math"
	"math/big"
	"slices"
	"strings"
	"testing"

	"loop.example/g01260/impl"
)

// textsOver returns all texts of at most n bytes out of some.
func textsOver(bytes string, n int) []string {
	texts := []string{""}
	for from := 0; len(texts[from]) < n; from++ {
		for i := range len(bytes) {
			texts = append(texts, texts[from]+bytes[i:i+1])
		}
	}
	return texts
}

// isFractionText reports whether a text is that of a number of the library.
func isFractionText(text string) bool {
	a, ok := new(big.Rat).SetString(text)
	return ok && a.String() == text
}

func TestFractionTexts(t *testing.T) {
	cases := []struct {
		a    impl.Fraction
		text string
	}{
		{zero, "0/1"}, {fr(1, 1), "1/1"}, {fr(-3, 2), "-3/2"}, {fr(10, 7), "10/7"},
		{fr(impl.MaxPart, 1), "1000000000/1"}, {fr(-impl.MaxPart, 1), "-1000000000/1"},
		{fr(1, impl.MaxPart), "1/1000000000"}, {fr(-999999999, impl.MaxPart), "-999999999/1000000000"},
	}
	for _, c := range cases {
		if text, code := impl.FractionText(c.a); text != c.text || code != impl.ErrNone {
			t.Errorf("FractionText(%v) = %q, %d", c.a, text, code)
		}
		a, code := impl.ParseFraction(c.text)
		checkFraction(t, "ParseFraction "+c.text, a, code, c.a, impl.ErrNone)
	}
	for _, a := range sampleFractions() {
		text, code := impl.FractionText(a)
		if code != impl.ErrNone {
			t.Errorf("FractionText(%v): code %d", a, code)
		}
		back, code := impl.ParseFraction(text)
		checkFraction(t, "ParseFraction "+text, back, code, a, impl.ErrNone)
	}
}

func TestParseFractionTakesTextsOfFractionsAlone(t *testing.T) {
	taken := 0
	for _, text := range textsOver("/-+0123", 5) {
		a, code := impl.ParseFraction(text)
		if !isFractionText(text) {
			checkFraction(t, "ParseFraction "+text, a, code, impl.Fraction{}, impl.ErrSyntax)
			continue
		}
		taken++
		if back, backCode := impl.FractionText(a); code != impl.ErrNone || back != text || backCode != impl.ErrNone {
			t.Errorf("ParseFraction(%q) = %v, %d, of the text %q, %d", text, a, code, back, backCode)
		}
	}
	if taken < 100 {
		t.Errorf("there are only %d texts of fractions", taken)
	}
}

func TestParseFractionErrors(t *testing.T) {
	for _, text := range []string{"", "/", "1", "-", "1/", "/1", "-/1", "1//1", "1/1/1", "1/1/", "2/4", "0/2",
		"-0/1", "+1/1", "1/+1", "1/-1", "-1/-1", "1/0", "0/0", "01/2", "1/02", "00/1", "1 /2", " 1/2", "1/2 ",
		"1/2\n", "1_0/1", "0x1/1", "1e1/1", "1.0/1", "a/b", "\u0661/1", "1/1*", "--1/1", "1\x00/1",
		"1000000001/1", "-1000000001/1", "1/1000000001", "1000000000/2", "9223372036854775807/1",
		"9223372036854775808/1", "-9223372036854775808/1", "18446744073709551617/1", "1/18446744073709551617",
		strings.Repeat("1", 1000) + "/1"} {
		a, code := impl.ParseFraction(text)
		checkFraction(t, "ParseFraction "+text, a, code, impl.Fraction{}, impl.ErrSyntax)
	}
}

func TestSeriesTexts(t *testing.T) {
	one := fr(1, 1)
	cases := []struct {
		x    impl.Series
		text string
	}{
		{impl.Series{Letters: 2, Level: 2}, "0"},
		{impl.Series{Letters: 3, Level: 4}, "0"},
		{impl.Series{Letters: 2, Level: 2, Terms: []impl.Term{{Word: "", Value: one}}}, "1/1*"},
		{impl.Series{Letters: 1, Level: 5, Terms: []impl.Term{{Word: "00000", Value: fr(-1, 2)}}}, "-1/2*00000"},
		{impl.Series{Letters: 3, Level: 4, Terms: []impl.Term{{Word: "", Value: one}, {Word: "2", Value: fr(-1, 3)},
			{Word: "00", Value: one}, {Word: "2222", Value: fr(impl.MaxPart, 1)}}},
			"1/1*+-1/3*2+1/1*00+1000000000/1*2222"},
	}
	for _, c := range cases {
		if text, code := impl.SeriesText(c.x); text != c.text || code != impl.ErrNone {
			t.Errorf("SeriesText(%v) = %q, %d", c.x, text, code)
		}
		x, code := impl.ParseSeries(c.x.Letters, c.x.Level, c.text)
		if code != impl.ErrNone || !sameSeries(x, c.x) {
			t.Errorf("ParseSeries(%q) = %v, %d", c.text, x, code)
		}
	}
}

func TestSeriesComeBackFromTheirTexts(t *testing.T) {
	for d := int64(1); d <= impl.MaxLetter; d++ {
		for n := int64(1); n <= levelsOf(d); n++ {
			for step := 1; step <= 4; step++ {
				x := mixedSeries(d, n, step, 4)
				text, code := impl.SeriesText(x)
				if code != impl.ErrNone {
					t.Errorf("SeriesText(%v): code %d", x, code)
				}
				back, code := impl.ParseSeries(d, n, text)
				if code != impl.ErrNone || !sameSeries(x, back) {
					t.Errorf("ParseSeries(%q) = %v, %d", text, back, code)
				}
			}
		}
	}
}

func TestParseSeriesTakesTextsOfSeriesAlone(t *testing.T) {
	words := textsOver("01", 2)
	taken := 0
	// Texts of two terms are longer than these.
	for _, text := range textsOver("01/*+-", 7) {
		value, word, found := strings.Cut(text, "*")
		want := found && isFractionText(value) && value != "0/1" && slices.Contains(words, word)
		x, code := impl.ParseSeries(2, 2, text)
		if text != "0" && !want {
			checkSeriesError(t, "ParseSeries "+text, x, code, impl.ErrSyntax)
			continue
		}
		taken++
		if back, backCode := impl.SeriesText(x); code != impl.ErrNone || back != text || backCode != impl.ErrNone {
			t.Errorf("ParseSeries(%q) = %v, %d, of the text %q, %d", text, x, code, back, backCode)
		}
	}
	if taken < 100 {
		t.Errorf("there are only %d texts of series", taken)
	}
}

func TestParseSeriesTakesAscendingWordsAlone(t *testing.T) {
	places := map[string]int{}
	for i, w := range allWords(2, 2) {
		places[w] = i + 1
	}
	for _, v := range textsOver("012", 3) {
		for _, w := range textsOver("012", 3) {
			text := "1/2*" + v + "+-3/1*" + w
			x, code := impl.ParseSeries(2, 2, text)
			if places[v] == 0 || places[v] >= places[w] {
				checkSeriesError(t, "ParseSeries "+text, x, code, impl.ErrSyntax)
				continue
			}
			want := impl.Series{Letters: 2, Level: 2, Terms: []impl.Term{{Word: v, Value: fr(1, 2)}, {Word: w, Value: fr(-3, 1)}}}
			if code != impl.ErrNone || !sameSeries(x, want) {
				t.Errorf("ParseSeries(%q) = %v, %d", text, x, code)
			}
		}
	}
}

func TestParseSeriesErrors(t *testing.T) {
	for _, text := range []string{"", " ", "0 ", "00", "0*", "-0", "+", "*", "1/1", "1/1*0+", "+1/1*0", "1/1*0++1/1*1",
		"1/1*0+0", "0+1/1*0", "0/1*", "0/1*0", "1/1*0+0/1*1", "2/2*0", "1*0", "1/1*1+1/1*0", "1/1*0+1/1*0",
		"1/1*+1/1*", "1/1*0+1/1*", "1/1*00+1/1*1", "1/1*2", "1/1*a", "1/1*000", "1/1*0*", "1/1**0", "1/1 *0",
		"1/1* 0", "1/1*0 +1/1*1", "1/1*0\n", "1000000001/1*0", "1/1*0-1/1*1", "1/1*-0", "*0", "/*"} {
		x, code := impl.ParseSeries(2, 2, text)
		checkSeriesError(t, "ParseSeries "+text, x, code, impl.ErrSyntax)
	}
	x, code := impl.ParseSeries(1, 5, "1/1*000000")
	checkSeriesError(t, "ParseSeries of 6 letters", x, code, impl.ErrSyntax)
	x, code = impl.ParseSeries(3, 4, "1/1*00000")
	checkSeriesError(t, "ParseSeries of 5 letters", x, code, impl.ErrSyntax)
	x, code = impl.ParseSeries(3, 4, "1/1*3")
	checkSeriesError(t, "ParseSeries of the letter 3", x, code, impl.ErrSyntax)
}

func TestParseSeriesShapes(t *testing.T) {
	for _, d := range append(badLetters(), 1, 2, 3) {
		for _, n := range []int64{math.MinInt64, -1, 0, 1, 4, 5, 6, math.MaxInt64} {
			if d >= 1 && d <= 3 && n >= 1 && n <= levelsOf(d) {
				x, code := impl.ParseSeries(d, n, "1/1*+-2/3*0")
				if code != impl.ErrNone || x.Letters != d || x.Level != n || len(x.Terms) != 2 {
					t.Errorf("ParseSeries(%d, %d) = %v, %d", d, n, x, code)
				}
				continue
			}
			for _, text := range []string{"0", "1/1*0", "", "x"} {
				x, code := impl.ParseSeries(d, n, text)
				checkSeriesError(t, "ParseSeries", x, code, impl.ErrRange)
			}
		}
	}
}

func TestSeriesTextErrors(t *testing.T) {
	for name, x := range notSeries() {
		if text, code := impl.SeriesText(x); text != "" || code != impl.ErrInvalid {
			t.Errorf("SeriesText, %s = %q, %d", name, text, code)
		}
	}
}
