package tests

import (
	"slices"
	"testing"
	"unsafe"

	"loop.example/g01260/impl"
)

// spareTerm stands in the spare capacity behind the terms of an argument.
var spareTerm = impl.Term{Word: "spare", Value: fr(-77, 7)}

// withSpare returns a series with spare capacity behind its terms, and the whole list.
func withSpare(x impl.Series) (impl.Series, []impl.Term) {
	whole := slices.Clone(x.Terms)
	for range 5 {
		whole = append(whole, spareTerm)
	}
	x.Terms = whole[:len(x.Terms)]
	return x, whole
}

// shareMemory reports whether two lists have a place in common, spare capacity included.
func shareMemory[E any](a []E, b []E) bool {
	a, b = a[:cap(a)], b[:cap(b)]
	for i := range a {
		for k := range b {
			if &a[i] == &b[k] {
				return true
			}
		}
	}
	return false
}

// shareBytes reports whether two texts have a byte in common.
func shareBytes(a string, b string) bool {
	if a == "" || b == "" {
		return false
	}
	from, to := uintptr(unsafe.Pointer(unsafe.StringData(a))), uintptr(unsafe.Pointer(unsafe.StringData(b)))
	return from < to+uintptr(len(b)) && to < from+uintptr(len(a))
}

// shareWords reports whether words of two lists have a byte in common.
func shareWords(a []impl.Term, b []impl.Term) bool {
	for _, s := range a {
		for _, t := range b {
			if shareBytes(s.Word, t.Word) {
				return true
			}
		}
	}
	return false
}

// seriesFunction is a function of two series, of which it may use one, with what it returns of
// them as a series.
type seriesFunction struct {
	name string
	call func(x impl.Series, y impl.Series) impl.Series
}

func seriesFunctions() []seriesFunction {
	type series = impl.Series
	list := []seriesFunction{
		{"IsSeries", func(x series, y series) series { impl.IsSeries(x); return series{} }},
		{"SeriesText", func(x series, y series) series { impl.SeriesText(x); return series{} }},
		{"AddSeries", func(x series, y series) series { z, _ := impl.AddSeries(x, y); return z }},
		{"AddSeries to itself", func(x series, y series) series { z, _ := impl.AddSeries(x, x); return z }},
	}
	for _, a := range []impl.Fraction{zero, fr(1, 1), fr(-2, 3), fr(impl.MaxPart, 7), {}} {
		list = append(list, seriesFunction{"ScaleSeries", func(x series, y series) series {
			z, _ := impl.ScaleSeries(x, a)
			return z
		}})
		for _, w := range append(allWords(3, 3), "x", "000000") {
			list = append(list, seriesFunction{"PutTerm " + w, func(x series, y series) series {
				z, _ := impl.PutTerm(x, w, a)
				return z
			}})
		}
	}
	for n := int64(-1); n <= 6; n++ {
		list = append(list, seriesFunction{"PartOf", func(x series, y series) series {
			z, _ := impl.PartOf(x, n)
			return z
		}})
	}
	for _, w := range append(allWords(3, 3), "x", "000000") {
		list = append(list, seriesFunction{"CoefficientOf " + w, func(x series, y series) series {
			impl.CoefficientOf(x, w)
			return series{}
		}})
	}
	return list
}

func TestSeriesAreNeitherWrittenNorShared(t *testing.T) {
	pairs := [][2]impl.Series{
		{{Letters: 2, Level: 3}, {Letters: 2, Level: 3}},
		{mixedSeries(2, 3, 3, 4), {Letters: 2, Level: 3}},
		{{Letters: 2, Level: 3}, mixedSeries(2, 3, 3, 4)},
		{mixedSeries(2, 3, 3, 4), mixedSeries(2, 3, 5, 7)},
		{mixedSeries(3, 3, 2, 4), mixedSeries(3, 3, 3, 7)},
		{mixedSeries(1, 5, 2, 4), mixedSeries(1, 5, 2, 4)},
	}
	checkMemory(t, seriesFunctions(), pairs)
}

// checkMemory calls functions with pairs of series, and with what is no series, and looks for what
// they write and share.
func checkMemory(t *testing.T, functions []seriesFunction, pairs [][2]impl.Series) {
	t.Helper()
	for _, bad := range notSeries() {
		pairs = append(pairs, [2]impl.Series{bad, mixedSeries(2, 3, 3, 4)})
	}
	for _, pair := range pairs {
		for _, f := range functions {
			x, wholeX := withSpare(pair[0])
			y, wholeY := withSpare(pair[1])
			beforeX, beforeY := slices.Clone(wholeX), slices.Clone(wholeY)
			z := f.call(x, y)
			if !slices.Equal(wholeX, beforeX) || !slices.Equal(wholeY, beforeY) {
				t.Errorf("%s writes into %v or %v", f.name, pair[0], pair[1])
			}
			if shareMemory(z.Terms, wholeX) || shareMemory(z.Terms, wholeY) {
				t.Errorf("%s of %v and %v shares its memory", f.name, pair[0], pair[1])
			}
			if shareWords(z.Terms, wholeX) || shareWords(z.Terms, wholeY) {
				t.Errorf("%s of %v and %v shares the memory of words", f.name, pair[0], pair[1])
			}
		}
	}
}

func TestWordsOfResultsAreNew(t *testing.T) {
	text := string([]byte("1/2*01+1/3*10"))
	x, _ := impl.ParseSeries(2, 2, text)
	word := string([]byte("11"))
	y, _ := impl.PutTerm(x, word, fr(1, 5))
	if len(x.Terms) != 2 || len(y.Terms) != 3 {
		t.Fatalf("the series are %v and %v", x, y)
	}
	for _, term := range x.Terms {
		if shareBytes(term.Word, text) {
			t.Errorf("ParseSeries keeps its text for %q", term.Word)
		}
	}
	if shareBytes(y.Terms[2].Word, word) || shareBytes(y.Terms[0].Word, x.Terms[0].Word) {
		t.Errorf("PutTerm keeps a word")
	}
}

func TestResultsDoNotShareWithEachOther(t *testing.T) {
	for d := int64(1); d <= impl.MaxLetter; d++ {
		for n := int64(0); n <= impl.MaxLevel; n++ {
			first, _ := impl.WordsOf(d, n)
			want := slices.Clone(first)
			for i := range first[:cap(first)] {
				first[:cap(first)][i] = "changed"
			}
			if second, _ := impl.WordsOf(d, n); !slices.Equal(second, want) {
				t.Errorf("WordsOf(%d, %d) = %v after a change of its result", d, n, second)
			}
		}
	}
	for name, makeSeries := range map[string]func() (impl.Series, int64){
		"LetterSeries": func() (impl.Series, int64) { return impl.LetterSeries(2, 2, 1) },
		"ParseSeries":  func() (impl.Series, int64) { return impl.ParseSeries(2, 2, "1/2*0+1/3*1") },
	} {
		first, _ := makeSeries()
		want := slices.Clone(first.Terms)
		for i := range first.Terms {
			first.Terms[i] = spareTerm
		}
		second, _ := makeSeries()
		if !slices.Equal(second.Terms, want) || shareMemory(first.Terms, second.Terms) {
			t.Errorf("%s = %v after a change of its result", name, second)
		}
	}
}

func TestResultsDoNotDependOnCallsBefore(t *testing.T) {
	x, y := mixedSeries(2, 4, 3, 4), mixedSeries(2, 4, 5, 7)
	for _, f := range seriesFunctions() {
		if first, second := f.call(x, y), f.call(x, y); !sameSeries(first, second) {
			t.Errorf("%s = %v, and then %v", f.name, first, second)
		}
	}
}
