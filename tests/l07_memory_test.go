package tests

import (
	"slices"
	"strings"
	"testing"

	"loop.example/g01260/impl"
)

// mapFunctions are the functions of chapter 7 that take series.
func mapFunctions() []seriesFunction {
	type series = impl.Series
	list := []seriesFunction{
		{"DegreesOf", func(x series, y series) series { impl.DegreesOf(x); return series{} }},
	}
	for _, m := range memoryMaps() {
		list = append(list,
			seriesFunction{"MapSeries", func(x series, y series) series { z, _ := impl.MapSeries(x, m.e, m.rows); return z }},
			seriesFunction{"IsUnchanged", func(x series, y series) series { impl.IsUnchanged(x, m.rows); return series{} }})
	}
	for _, letters := range memoryLists() {
		list = append(list, seriesFunction{"ExchangeLetters", func(x series, y series) series {
			z, _ := impl.ExchangeLetters(x, letters)
			return z
		}})
	}
	for name, do := range textFunctions {
		for _, w := range []string{"", "0", "1", "01", "10", "012", "00", "x", "000000"} {
			list = append(list, seriesFunction{name, func(x series, y series) series { z, _ := do(x, w); return z }})
		}
	}
	return list
}

// memoryMaps are maps of all kinds, and what is none.
func memoryMaps() []namedMap {
	list := []namedMap{
		{"", 1, 1, rowList{{-2}}}, {"", 1, 2, rowList{{1, 3}}}, {"", 1, 3, rowList{{1, 0, 2}}}, {"", 2, 1, rowList{{1}, {2}}},
		{"", 2, 2, rowList{{1, 2}, {0, -1}}}, {"", 2, 3, rowList{{1, 2, 3}, {0, 0, 1}}}, {"", 2, 2, unitMap(2)}, {"", 2, 2, flatRows(2, 2, 0)},
		{"", 3, 1, rowList{{1}, {0}, {-1}}}, {"", 3, 2, rowList{{1, 0}, {1, 1}, {0, 2}}}, {"", 3, 3, rowList{{0, 1, 0}, {0, 0, 2}, {1, 1, 1}}},
		{"", 2, 2, flatRows(2, 2, 100)},
	}
	for _, bad := range notMaps() {
		if len(bad.rows) <= impl.MaxLetter+1 {
			list = append(list, bad)
		}
	}
	return list
}

// memoryLists are lists of letters, and what is none.
func memoryLists() [][]int64 {
	return [][]int64{nil, {0}, {1, 0}, {0, 1}, {2, 0, 1}, {0, 0}, {0, 5}, {0, 1, 2, 3}}
}

// mapPairs are series with few and with many terms, and with values that do not fit when mapped.
func mapPairs(t *testing.T) [][2]impl.Series {
	var pairs [][2]impl.Series
	eachShape(func(d int64, n int64) {
		if n <= 3 {
			pairs = append(pairs, [2]impl.Series{mixedSeries(d, n, 3, 4), largeSeries(d, n)}, [2]impl.Series{largeSeries(d, n), unitOf(d, n)})
		}
	})
	return append(pairs, [2]impl.Series{seriesOf(t, 2, 5, "1/1*01+2/1*01011"), seriesOf(t, 2, 5, "0")})
}

func TestMappedSeriesAreNeitherWrittenNorShared(t *testing.T) {
	checkMemory(t, mapFunctions(), mapPairs(t))
}

func TestMappedSeriesDoNotDependOnCallsBefore(t *testing.T) {
	checkCallsBefore(t, mapFunctions(), mapPairs(t))
}

// Each function has to make terms for some of the series, or the tests of memory would look at nothing.
func TestMemoryTestsOfMapsLookAtTerms(t *testing.T) {
	made := map[string]int{"DegreesOf": 1, "IsUnchanged": 1}
	for _, f := range mapFunctions() {
		for _, pair := range mapPairs(t) {
			made[f.name] += len(f.call(pair[0], pair[1]).Terms)
		}
	}
	for _, f := range mapFunctions() {
		if made[f.name] == 0 {
			t.Errorf("%s makes no terms", f.name)
		}
	}
}

// Words that are cut are new, too, and so are those of a beginning, an end or letters to keep.
func TestTextsAreNotKept(t *testing.T) {
	x := mixedSeries(3, 3, 4, 4)
	for name, do := range textFunctions {
		for _, text := range []string{"0", "1", "01", "012"} {
			w := strings.Clone(text)
			got, _ := do(x, w)
			if w != text {
				t.Errorf("%s has changed %q to %q", name, text, w)
			}
			for _, term := range got.Terms {
				if shareBytes(term.Word, w) {
					t.Errorf("%s keeps %q", name, text)
				}
			}
		}
	}
}

// mapMaker is a function of a map, with what it returns as rows.
type mapMaker struct {
	name string
	call func(m namedMap, rows rowList) rowList
}

// mapMakers are all functions of chapter 7 that take rows, or paths.
func mapMakers(t *testing.T) []mapMaker {
	only := func(rows rowList, code int64) rowList { return rows }
	list := []mapMaker{
		{"IsMap", func(m namedMap, rows rowList) rowList { impl.IsMap(m.d, m.e, rows); return nil }},
		{"TransposeMap", func(m namedMap, rows rowList) rowList { return only(impl.TransposeMap(m.d, m.e, rows)) }},
		{"ComposeMaps with itself", func(m namedMap, rows rowList) rowList {
			return only(impl.ComposeMaps(m.d, m.e, m.e, rows, rows))
		}},
		{"ComposeMaps, first", func(m namedMap, rows rowList) rowList {
			return only(impl.ComposeMaps(m.d, m.e, 2, rows, flatRows(max(0, min(m.e, 4)), 2, 1)))
		}},
		{"ComposeMaps, second", func(m namedMap, rows rowList) rowList {
			return only(impl.ComposeMaps(2, m.d, m.e, flatRows(2, max(0, min(m.d, 4)), 1), rows))
		}},
		{"MapPath, rows", func(m namedMap, rows rowList) rowList {
			return only(impl.MapPath(m.d, repeated(3, flatStep(max(0, min(m.d, 4)), 1)...), m.e, rows))
		}},
		{"MapPath, path", func(m namedMap, rows rowList) rowList {
			return only(impl.MapPath(m.e, rows, 2, flatRows(max(0, min(m.e, 4)), 2, 1)))
		}},
		{"MapPath, both", func(m namedMap, rows rowList) rowList { return only(impl.MapPath(m.d, rows, m.e, rows)) }},
	}
	for _, pair := range mapPairs(t) {
		list = append(list,
			mapMaker{"MapSeries", func(m namedMap, rows rowList) rowList { impl.MapSeries(pair[0], m.e, rows); return nil }},
			mapMaker{"IsUnchanged", func(m namedMap, rows rowList) rowList { impl.IsUnchanged(pair[0], rows); return nil }})
	}
	return list
}

// checkOwnMemory requires that no two lists of a result share memory.
func checkOwnMemory[E any](t *testing.T, name string, lists [][]E) {
	t.Helper()
	for i, v := range lists {
		for _, w := range lists[:i] {
			if shareMemory(v, w) {
				t.Errorf("lists of %s share memory", name)
			}
		}
	}
}

func TestMapsAreNeitherWrittenNorShared(t *testing.T) {
	makers, made := mapMakers(t), map[string]int{}
	for _, m := range memoryMaps() {
		for _, f := range makers {
			rows := spacious(m.rows)
			before := wholeOf(rows)
			got := f.call(m, rows)
			made[f.name] += len(got)
			if !samePath(wholeOf(rows), before) {
				t.Errorf("%s writes into %v", f.name, m.rows)
			}
			if shareRows(got, rows) {
				t.Errorf("%s of %v shares its memory", f.name, m.rows)
			}
			checkOwnMemory(t, f.name, got)
		}
	}
	for _, f := range makers[1:8] {
		if made[f.name] == 0 {
			t.Errorf("%s makes no rows", f.name)
		}
	}
}

// A map may have one row at several places. What is made of it must not.
func TestResultsOfMapsWithOneRowTwice(t *testing.T) {
	row := []int64{1, 2, -1}
	shared := rowList{row, row, row}
	for _, f := range mapMakers(t) {
		checkOwnMemory(t, f.name, f.call(namedMap{"", 3, 3, shared}, shared))
	}
	if !samePath(shared, repeated(3, 1, 2, -1)) {
		t.Errorf("the map has become %v", shared)
	}
}

// changedAfter changes whatever a result reaches, and returns a copy of what it was.
func changedAfter(lists [][]int64) [][]int64 {
	return changedRows(lists, spareNumber)
}

// changedRows puts spare wherever rows reach, and returns a copy of what they were.
func changedRows[E any](rows [][]E, spare E) [][]E {
	var copies [][]E
	for _, row := range rows {
		copies = append(copies, slices.Clone(row))
	}
	for _, row := range rows {
		for i := range row[:cap(row)] {
			row[:cap(row)][i] = spare
		}
	}
	return copies
}

func TestMapsDoNotDependOnCallsBefore(t *testing.T) {
	for _, m := range memoryMaps() {
		for _, f := range mapMakers(t) {
			first := f.call(m, m.rows)
			want := changedAfter(first)
			second := f.call(m, m.rows)
			if !samePath(second, want) || shareRows(first, second) {
				t.Errorf("%s of %v = %v, and then %v", f.name, m.rows, want, second)
			}
		}
	}
}

func TestDegreesAreNew(t *testing.T) {
	for _, pair := range mapPairs(t) {
		first, code := impl.DegreesOf(pair[0])
		checkOwnMemory(t, "DegreesOf", first)
		want := changedAfter(first)
		second, _ := impl.DegreesOf(pair[0])
		if code != impl.ErrNone || len(first) == 0 || !samePath(second, want) || shareRows(first, second) {
			t.Errorf("DegreesOf %v = %v, and then %v", pair[0], want, second)
		}
	}
}

func TestListsOfLettersAreNotWritten(t *testing.T) {
	for _, letters := range memoryLists() {
		for d := int64(1); d <= impl.MaxLetter; d++ {
			whole := append(slices.Clone(letters), spareNumber, spareNumber)
			before := slices.Clone(whole)
			impl.ExchangeLetters(mixedSeries(d, 3, 3, 4), whole[:len(letters)])
			if !slices.Equal(whole, before) {
				t.Errorf("ExchangeLetters writes into %v", letters)
			}
		}
	}
}
