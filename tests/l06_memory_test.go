package tests

import (
	"slices"
	"strings"
	"testing"

	"loop.example/g01260/impl"
)

// lieFunctions are the functions of chapter 6 that take series, or coordinates as the terms of a
// series. Coordinates in results are told as the terms of a series, too.
func lieFunctions() []seriesFunction {
	type series = impl.Series
	terms := func(list []impl.Term, code int64) series { return series{Terms: list} }
	only := func(x series, code int64) series { return x }
	list := []seriesFunction{
		{"LieCoordinates", func(x series, y series) series { return terms(impl.LieCoordinates(x)) }},
		{"DynkinMap", func(x series, y series) series { return only(impl.DynkinMap(x)) }},
		{"JoinedSeries", func(x series, y series) series { return only(impl.JoinedSeries(x, y)) }},
		{"JoinedSeries with itself", func(x series, y series) series { return only(impl.JoinedSeries(x, x)) }},
		{"SeriesOfCoordinates", func(x series, y series) series {
			return only(impl.SeriesOfCoordinates(x.Letters, x.Level, x.Terms))
		}},
		{"SignatureOfCoordinates", func(x series, y series) series {
			return only(impl.SignatureOfCoordinates(x.Letters, x.Level, x.Terms))
		}},
		{"InverseCoordinates", func(x series, y series) series {
			return terms(impl.InverseCoordinates(x.Letters, x.Level, x.Terms))
		}},
		{"MultiplyCoordinates", func(x series, y series) series {
			return terms(impl.MultiplyCoordinates(x.Letters, x.Level, x.Terms, y.Terms))
		}},
		{"MultiplyCoordinates with itself", func(x series, y series) series {
			return terms(impl.MultiplyCoordinates(x.Letters, x.Level, x.Terms, x.Terms))
		}},
		{"MultiplyCoordinates with nothing", func(x series, y series) series {
			return terms(impl.MultiplyCoordinates(x.Letters, x.Level, x.Terms, nil))
		}},
	}
	for _, k := range []int64{-1, 0, 1, 2, impl.MaxPower, impl.MaxPower + 1} {
		list = append(list, seriesFunction{"RepeatedBracket", func(x series, y series) series {
			return only(impl.RepeatedBracket(x, y, k))
		}})
	}
	return list
}

// liePairs are pairs of Lie series, of coordinates as the terms of series, and of what is none of
// these.
func liePairs(t *testing.T) [][2]impl.Series {
	pairs := productPairs(t)
	for _, c := range lieCases() {
		lie, coordinates := seriesOf(t, c.d, c.n, c.x), seriesOf(t, c.d, c.n, c.want)
		pairs = append(pairs, [2]impl.Series{lie, coordinates}, [2]impl.Series{coordinates, coordinates})
	}
	for _, text := range []string{"500000001/1*001", "1/1*01", "1/1*0+500000001/1*011", "1/1*00"} {
		x := seriesOf(t, 2, 3, text)
		pairs = append(pairs, [2]impl.Series{x, x}, [2]impl.Series{x, seriesOf(t, 2, 3, "1/1*0")})
	}
	return pairs
}

func TestLieSeriesAreNeitherWrittenNorShared(t *testing.T) {
	checkMemory(t, lieFunctions(), liePairs(t))
}

func TestLieSeriesDoNotDependOnCallsBefore(t *testing.T) {
	checkCallsBefore(t, lieFunctions(), liePairs(t))
}

// Each function has to make terms for some of the pairs, or the tests of memory would look at nothing.
func TestMemoryTestsOfLieSeriesLookAtTerms(t *testing.T) {
	made := map[string]int{}
	for _, f := range lieFunctions() {
		for _, pair := range liePairs(t) {
			made[f.name] += len(f.call(pair[0], pair[1]).Terms)
		}
		if made[f.name] == 0 && f.name != "RepeatedBracket" {
			t.Errorf("%s makes no terms", f.name)
		}
	}
	if made["RepeatedBracket"] == 0 {
		t.Errorf("RepeatedBracket makes no terms")
	}
}

func TestBracketsAreNewAndDoNotKeepTheirWord(t *testing.T) {
	for name, do := range bracketFunctions {
		made := 0
		for _, text := range append(allWords(3, 4), "a", "000000") {
			w := strings.Clone(text)
			first, firstCode := do(3, 4, w)
			want := slices.Clone(first.Terms)
			made += len(want)
			for i, term := range first.Terms {
				if shareBytes(term.Word, w) {
					t.Errorf("%s of %q keeps its word", name, text)
				}
				first.Terms[i] = spareTerm
			}
			second, code := do(3, 4, w)
			if w != text || code != firstCode || !slices.Equal(second.Terms, want) || shareMemory(first.Terms, second.Terms) {
				t.Errorf("%s of %q = %v, and then %v", name, text, want, second)
			}
		}
		if made == 0 {
			t.Errorf("%s makes no terms", name)
		}
	}
}

func TestPathCoordinatesAreNewAndDoNotWrite(t *testing.T) {
	made := 0
	for _, c := range memoryPaths() {
		p := spacious(c.p)
		before := wholeOf(p)
		first, firstCode := impl.PathCoordinates(c.d, 3, p)
		want := slices.Clone(first)
		made += len(want)
		for i := range first[:cap(first)] {
			first[:cap(first)][i] = spareTerm
		}
		second, code := impl.PathCoordinates(c.d, 3, p)
		if code != firstCode || !slices.Equal(second, want) || shareMemory(first, second) {
			t.Errorf("PathCoordinates(%d, 3, %v) = %v, and then %v", c.d, c.p, want, second)
		}
		if !samePath(wholeOf(p), before) {
			t.Errorf("PathCoordinates writes into %v", c.p)
		}
	}
	if made == 0 {
		t.Error("PathCoordinates makes no terms")
	}
}
