package tests

import (
	"slices"
	"testing"

	"loop.example/g01260/impl"
)

// spareFraction stands in the spare capacity behind the fractions of a row.
var spareFraction = fr(-77, 7)

// spaciousTables returns a copy of tables with spare capacity behind them and behind all that they have.
func spaciousTables(tables tableList) tableList {
	var whole tableList
	for _, table := range tables {
		whole = append(whole, spacious(table))
	}
	for range 3 {
		whole = append(whole, flatRows(1, 1, spareNumber))
	}
	return whole[:len(tables)]
}

// wholeTables returns a copy of tables with what stands in the spare capacities.
func wholeTables(tables tableList) tableList {
	var whole tableList
	for _, table := range tables[:cap(tables)] {
		whole = append(whole, wholeOf(table))
	}
	return whole
}

// tableMaker is a function of tables with the rows that it returns.
type tableMaker[E any] struct {
	name string
	call func(d int64, tables tableList) [][]E
}

// wholeMakers are the functions of tables that return whole numbers, or nothing that has memory.
func wholeMakers() []tableMaker[int64] {
	only := func(rows rowList, code int64) rowList { return rows }
	list := []tableMaker[int64]{
		{"AreTables", func(d int64, tables tableList) rowList { impl.AreTables(d, tables); return nil }},
	}
	for _, f := range tableFunctions() {
		list = append(list, tableMaker[int64]{"the code of " + f.name, func(d int64, tables tableList) rowList { f.call(d, tables); return nil }})
	}
	for _, w := range []string{"", "0", "1", "01", "00000", "000000", "x"} {
		list = append(list, tableMaker[int64]{"ProductOfWord " + w, func(d int64, tables tableList) rowList {
			return only(impl.ProductOfWord(d, tables, w))
		}})
	}
	for _, k := range []int64{0, 1, 2, 3} {
		list = append(list, tableMaker[int64]{"TableCommutator", func(d int64, tables tableList) rowList {
			return only(impl.TableCommutator(d, tables, 0, k))
		}})
	}
	return list
}

// valueMakers are the functions of tables that return fractions.
func valueMakers() []tableMaker[impl.Fraction] {
	only := func(m matrix, code int64) matrix { return m }
	var list []tableMaker[impl.Fraction]
	for d := int64(1); d <= impl.MaxLetter; d++ {
		for _, x := range []impl.Series{{Letters: d, Level: 2}, unitOf(d, 1), mixedSeries(d, 3, 3, 4), largeSeries(d, 2)} {
			list = append(list, tableMaker[impl.Fraction]{"ValueOfSeries", func(_ int64, tables tableList) matrix {
				return only(impl.ValueOfSeries(x, tables))
			}})
		}
		for _, n := range []int64{0, 1, 3} {
			for _, p := range samplePaths(d) {
				list = append(list, tableMaker[impl.Fraction]{"SolutionAlong", func(_ int64, tables tableList) matrix {
					return only(impl.SolutionAlong(d, n, p, tables))
				}})
			}
		}
	}
	return list
}

// memoryTables are tables of all kinds, and what is none.
func memoryTables() []namedTables {
	list := []namedTables{
		{"", 1, tableList{{{5}}}}, {"", 2, turnTables()}, {"", 2, tableList{{{1, 2}, {3, 4}}, {{5, 6}, {7, 8}}}}, {"", 3, cornerTables(0, 1)},
		{"", 3, flatTables(3, 3, 3, 1)}, {"", 3, flatTables(3, 6, 6, 1000)}, {"", 2, flatTables(2, 6, 6, 0)}, {"", 1, layeredTables(1, 1)},
	}
	for i, bad := range notTables() {
		// There are many of a kind, one beside the other.
		if i%7 == 0 && len(bad.tables) <= 4 {
			list = append(list, bad)
		}
	}
	return list
}

// checkTableMakers looks for what functions write into tables, and share with them.
func checkTableMakers[E comparable](t *testing.T, makers []tableMaker[E], spare E) {
	t.Helper()
	made := map[string]int{}
	for _, c := range memoryTables() {
		for _, f := range makers {
			tables := spaciousTables(c.tables)
			before := wholeTables(tables)
			first := f.call(c.d, tables)
			made[f.name] += len(first)
			if !sameTables(wholeTables(tables), before) {
				t.Errorf("%s writes into %v", f.name, c.tables)
			}
			checkNotShared(t, f.name, first, tables)
			checkOwnMemory(t, f.name, first)
			want := changedRows(first, spare)
			second := f.call(c.d, tables)
			if !slices.EqualFunc(second, want, slices.Equal[[]E]) || shareRows(first, second) || !sameTables(wholeTables(tables), before) {
				t.Errorf("%s of %v = %v, and then %v", f.name, c.tables, want, second)
			}
		}
	}
	for _, name := range []string{"ProductOfWord ", "ProductOfWord 0", "ProductOfWord 00000", "TableCommutator", "ValueOfSeries", "SolutionAlong"} {
		if count, called := made[name]; called && count == 0 {
			t.Errorf("%s makes no rows", name)
		}
	}
}

// checkNotShared requires that rows of a result, if they are whole numbers, are not those of tables.
func checkNotShared[E any](t *testing.T, name string, result [][]E, tables tableList) {
	t.Helper()
	rows, areWhole := any(result).(rowList)
	if !areWhole {
		return
	}
	for _, table := range tables[:cap(tables)] {
		if shareRows(rows, table) {
			t.Errorf("%s of %v shares its memory", name, tables)
		}
	}
}

func TestTablesAreNeitherWrittenNorShared(t *testing.T) {
	checkTableMakers(t, wholeMakers(), spareNumber)
}

func TestValuesAreNeitherWrittenNorShared(t *testing.T) {
	checkTableMakers(t, valueMakers(), spareFraction)
}

// Tables may have one table, or one row, at several places. What is made of them must not.
func TestResultsOfTablesWithOneRowTwice(t *testing.T) {
	row := []int64{1, 2, -1}
	table := rowList{row, row, row}
	shared := tableList{table, table, table}
	for _, f := range wholeMakers() {
		checkOwnMemory(t, f.name, f.call(3, shared))
	}
	for _, f := range valueMakers() {
		checkOwnMemory(t, f.name, f.call(3, shared))
	}
	if !sameTables(shared, slices.Repeat(tableList{repeated(3, 1, 2, -1)}, 3)) {
		t.Errorf("the tables have become %v", shared)
	}
}

// tableSeriesFunctions are the functions of chapter 8 that take series.
func tableSeriesFunctions() []seriesFunction {
	type series = impl.Series
	var list []seriesFunction
	for _, c := range memoryTables() {
		list = append(list, seriesFunction{"ValueOfSeries", func(x series, y series) series { impl.ValueOfSeries(x, c.tables); return series{} }})
	}
	for _, w := range append(allWords(3, 3), "00000", "000000", "x") {
		list = append(list, seriesFunction{"ReadByTables", func(x series, y series) series { impl.ReadByTables(x, w); return series{} }})
	}
	return list
}

func TestSeriesAtTablesAreNotWritten(t *testing.T) {
	checkMemory(t, tableSeriesFunctions(), mapPairs(t))
}

func TestPathsOfSolutionsAreNotWritten(t *testing.T) {
	for _, c := range memoryPaths() {
		for _, tables := range []tableList{turnTables(), {{{5}}}, flatTables(3, 3, 3, 2), flatTables(3, 6, 6, 1000), nil} {
			p := spacious(c.p)
			before := wholeOf(p)
			impl.SolutionAlong(c.d, 3, p, tables)
			if !samePath(wholeOf(p), before) {
				t.Errorf("SolutionAlong writes into %v", c.p)
			}
		}
	}
}

// checkNewTables compares two results with tables, changing the first one, and looks for what they share.
func checkNewTables(t *testing.T, name string, makeTables func() tableList) {
	t.Helper()
	first := makeTables()
	var want tableList
	for i, table := range first {
		for _, other := range first[:i] {
			if shareRows(table, other) {
				t.Errorf("tables of %s share memory", name)
			}
		}
		checkOwnMemory(t, name, table)
		want = append(want, wholeOf(table[:len(table):len(table)]))
	}
	for i, table := range first {
		changedAfter(table)
		first[i] = nil
	}
	if second := makeTables(); !sameTables(second, want) || shareMemory(first, second) {
		t.Errorf("%s = %v, and then %v", name, want, second)
	}
}

func TestTablesAreNew(t *testing.T) {
	checkNewTables(t, "TurnTables", impl.TurnTables)
	for d := int64(1); d <= impl.MaxLetter; d++ {
		for _, w := range allWords(d, 5) {
			checkNewTables(t, "TablesOfWord "+w, func() tableList {
				tables, _ := impl.TablesOfWord(d, w)
				return tables
			})
		}
	}
}

// memoryMatrices are matrices of all kinds, and what is none.
func memoryMatrices() []matrix {
	list := []matrix{nil, flatMatrix(1, 1, fr(1, 2)), flatMatrix(2, 2, fr(-1, 3)), flatMatrix(6, 6, fr(2, 1)), flatMatrix(3, 3, fr(impl.MaxPart, 1)), flatMatrix(7, 7, zero)}
	for _, bad := range notMatrices(2) {
		if len(bad) <= 7 {
			list = append(list, bad)
		}
	}
	return list
}

func TestMatricesAreNeitherWrittenNorShared(t *testing.T) {
	for _, m := range memoryMatrices() {
		for _, other := range []matrix{m, flatMatrix(2, 2, fr(1, 2)), flatMatrix(6, 6, fr(1, 6))} {
			a, b := spaciousRows(m, spareFraction), spaciousRows(other, spareFraction)
			for _, pair := range [][2]matrix{{a, b}, {b, a}, {a, a}} {
				beforeA, beforeB := wholeOf(a), wholeOf(b)
				got, code := impl.MultiplyTables(pair[0], pair[1])
				if !sameMatrix(wholeOf(a), beforeA) || !sameMatrix(wholeOf(b), beforeB) {
					t.Errorf("MultiplyTables writes into %v or %v", m, other)
				}
				if shareRows(got, a) || shareRows(got, b) {
					t.Errorf("MultiplyTables of %v and %v shares its memory", m, other)
				}
				checkOwnMemory(t, "MultiplyTables", got)
				want := changedRows(got, spareFraction)
				again, againCode := impl.MultiplyTables(pair[0], pair[1])
				if !sameMatrix(again, want) || againCode != code || shareRows(got, again) {
					t.Errorf("MultiplyTables of %v and %v = %v, and then %v", m, other, want, again)
				}
			}
		}
	}
	// One row at several places, in both matrices.
	row := []impl.Fraction{fr(1, 2), fr(1, 3)}
	shared := matrix{row, row}
	got, code := impl.MultiplyTables(shared, shared)
	checkMatrix(t, "MultiplyTables", got, code, "5/12 5/18; 5/12 5/18")
	checkOwnMemory(t, "MultiplyTables", got)
	if !sameMatrix(shared, matrixOf(t, "1/2 1/3; 1/2 1/3")) {
		t.Errorf("the matrix has become %v", shared)
	}
}
