package tests

import (
	"math"
	"slices"
	"testing"

	"loop.example/g01260/impl"
)

// tableList is tables for letters, or a list that may be none.
type tableList = [][][]int64

// flatTables returns tables for d letters with rows of a width, and the same number everywhere.
func flatTables(d int64, rows int64, width int64, number int64) tableList {
	var list tableList
	for range d {
		list = append(list, flatRows(rows, width, number))
	}
	return list
}

// diagonalTables returns one table for each number, which stands on its diagonal.
func diagonalTables(n int64, numbers ...int64) tableList {
	var list tableList
	for _, number := range numbers {
		table := unitMap(n)
		for i := range table {
			table[i][i] = number
		}
		list = append(list, table)
	}
	return list
}

// turnTables are the tables of turns.
func turnTables() tableList {
	return tableList{{{0, 1}, {0, 0}}, {{0, 0}, {1, 0}}}
}

// sameTables reports whether two lists of tables are equal.
func sameTables(a tableList, b tableList) bool {
	return slices.EqualFunc(a, b, samePath)
}

// namedTables is a list with a number of letters for which it may be no tables.
type namedTables struct {
	name   string
	d      int64
	tables tableList
}

// notTablesOf returns what is no tables of n rows for d letters, with both in their ranges, by what is
// wrong with it.
func notTablesOf(d int64, n int64) []namedTables {
	list := []namedTables{
		{"no tables", d, nil},
		{"no tables but a list", d, tableList{}},
		{"a table too few", d, flatTables(d-1, n, n, 1)},
		{"a table too much", d, flatTables(d+1, n, n, 1)},
		{"an empty table too much", d, append(flatTables(d, n, n, 1), nil)},
		{"many tables", d, flatTables(1000, n, n, 0)},
		{"rows too short", d, flatTables(d, n, n-1, 1)},
		{"rows too long", d, flatTables(d, n, n+1, 1)},
		{"long rows", d, flatTables(d, n, 1000, 0)},
		{"many rows", d, flatTables(d, 1000, n, 0)},
	}
	for a := range d {
		with := func(name string, table rowList) {
			tables := flatTables(d, n, n, impl.MaxWhole)
			tables[a] = table
			list = append(list, namedTables{name, d, tables})
		}
		with("a row too few", flatRows(n-1, n, 0))
		with("a row too much", flatRows(n+1, n, 0))
		with("an empty row too much", append(flatRows(n, n, 0), nil))
		if d > 1 {
			with("a smaller table", flatRows(n-1, n-1, 0))
			with("a larger table", flatRows(n+1, n+1, 0))
		}
		for i := range n {
			for name, row := range map[string][]int64{
				"a nil row": nil, "an empty row": {}, "a row too short": flatStep(n-1, 0), "a row too long": flatStep(n+1, 0),
			} {
				table := flatRows(n, n, impl.MaxWhole)
				table[i] = row
				with(name, table)
			}
			for _, number := range []int64{impl.MaxWhole + 1, -impl.MaxWhole - 1, math.MaxInt64, math.MinInt64, math.MinInt64 + 1} {
				table := flatRows(n, n, 0)
				table[i][(i+a)%n] = number
				with("too great a number", table)
			}
		}
	}
	return list
}

// notTables returns what is no tables, also because of letters or rows that are out of their ranges.
func notTables() []namedTables {
	var list []namedTables
	for d := int64(1); d <= impl.MaxLetter; d++ {
		for n := int64(1); n <= impl.MaxRows; n++ {
			list = append(list, notTablesOf(d, n)...)
		}
		list = append(list, namedTables{"no rows", d, flatTables(d, 0, 0, 0)},
			namedTables{"no rows but lists", d, slices.Repeat(tableList{{}}, int(d))},
			namedTables{"a row too much for all", d, flatTables(d, impl.MaxRows+1, impl.MaxRows+1, 0)},
			namedTables{"many rows and columns", d, flatTables(d, 100, 100, 0)})
	}
	for _, d := range badLetters() {
		for _, count := range []int64{0, 1, 2, 3, 4} {
			list = append(list, namedTables{"letters out of range", d, flatTables(count, 2, 2, 1)})
		}
	}
	return list
}

func TestAreTables(t *testing.T) {
	if impl.MaxRows != 6 || impl.MaxWhole != 1000 {
		t.Errorf("MaxRows = %d, MaxWhole = %d", impl.MaxRows, impl.MaxWhole)
	}
	for _, bad := range notTables() {
		if impl.AreTables(bad.d, bad.tables) {
			t.Errorf("AreTables(%d, %v), %s", bad.d, bad.tables, bad.name)
		}
	}
	for d := int64(-1); d <= 5; d++ {
		for count := int64(0); count <= 5; count++ {
			for rows := int64(0); rows <= 8; rows++ {
				for width := int64(0); width <= 8; width++ {
					want := d >= 1 && d <= 3 && count == d && rows >= 1 && rows <= 6 && width == rows
					for _, number := range []int64{0, 1, -1, impl.MaxWhole, -impl.MaxWhole} {
						if got := impl.AreTables(d, flatTables(count, rows, width, number)); got != want {
							t.Errorf("AreTables(%d) of %d tables, %d x %d, of %d = %v", d, count, rows, width, number, got)
						}
					}
				}
			}
		}
	}
	if !impl.AreTables(2, tableList{{{1000, -1000}, {0, 7}}, {{-3, 0}, {999, -1}}}) || !impl.AreTables(2, turnTables()) {
		t.Errorf("AreTables is false for tables")
	}
}

// productCase is a word with its product, or with none if it does not fit.
type productCase struct {
	d      int64
	tables tableList
	w      string
	want   rowList
}

// checkProducts compares products of words.
func checkProducts(t *testing.T, cases []productCase) {
	t.Helper()
	for _, c := range cases {
		got, code := impl.ProductOfWord(c.d, c.tables, c.w)
		name := "ProductOfWord of " + c.w
		if c.want == nil {
			checkPathError(t, name, got, code, impl.ErrLimit)
			continue
		}
		checkPath(t, name, got, code, c.want)
	}
}

func TestProductOfWord(t *testing.T) {
	two := tableList{{{1, 2}, {3, 4}}, {{5, 6}, {7, 8}}}
	three := tableList{{{0, 1, 0}, {0, 0, 2}, {3, 0, 0}}, {{1, 0, 0}, {0, -1, 0}, {0, 0, 1}}, {{1, 2, 3}, {4, 5, 6}, {7, 8, 9}}}
	checkProducts(t, []productCase{
		{1, tableList{{{5}}}, "", rowList{{1}}}, {1, tableList{{{5}}}, "0", rowList{{5}}}, {1, tableList{{{5}}}, "00000", rowList{{3125}}},
		{1, tableList{{{-3}}}, "000", rowList{{-27}}}, {1, tableList{{{0}}}, "", rowList{{1}}}, {1, tableList{{{0}}}, "00", rowList{{0}}},
		{2, two, "", rowList{{1, 0}, {0, 1}}}, {2, two, "0", two[0]}, {2, two, "1", two[1]}, {2, two, "01", rowList{{19, 22}, {43, 50}}},
		{2, two, "10", rowList{{23, 34}, {31, 46}}}, {2, two, "010", rowList{{85, 126}, {193, 286}}}, {2, two, "00", rowList{{7, 10}, {15, 22}}},
		{2, two, "100", rowList{{125, 182}, {169, 246}}}, {2, two, "00000", rowList{{1069, 1558}, {2337, 3406}}},
		{3, three, "", unitMap(3)}, {3, three, "000", rowList{{6, 0, 0}, {0, 6, 0}, {0, 0, 6}}}, {3, three, "11", unitMap(3)},
		{3, three, "01", rowList{{0, -1, 0}, {0, 0, 2}, {3, 0, 0}}}, {3, three, "10", rowList{{0, 1, 0}, {0, 0, -2}, {3, 0, 0}}},
		{3, three, "02", rowList{{4, 5, 6}, {14, 16, 18}, {3, 6, 9}}}, {3, three, "20", rowList{{9, 1, 4}, {18, 4, 10}, {27, 7, 16}}},
		{3, three, "21012", rowList{{-23, -19, -15}, {-68, -64, -60}, {-113, -109, -105}}},
		{2, turnTables(), "0", rowList{{0, 1}, {0, 0}}}, {2, turnTables(), "01", rowList{{1, 0}, {0, 0}}}, {2, turnTables(), "10", rowList{{0, 0}, {0, 1}}},
		{2, turnTables(), "00", rowList{{0, 0}, {0, 0}}}, {2, turnTables(), "01010", rowList{{0, 1}, {0, 0}}},
		{1, tableList{flatRows(6, 6, 1)}, "", unitMap(6)}, {1, tableList{flatRows(6, 6, 1)}, "00", flatRows(6, 6, 6)},
		{1, tableList{flatRows(6, 6, 1)}, "00000", flatRows(6, 6, 1296)}, {1, tableList{flatRows(6, 6, 1000)}, "00", flatRows(6, 6, 6000000)},
		{3, diagonalTables(6, 1000, -1000, 0), "01", diagonalTables(6, -1000000)[0]},
	})
}

func TestTablesOfWord(t *testing.T) {
	for _, c := range []struct {
		d    int64
		w    string
		want tableList
	}{
		{1, "", tableList{{{0}}}}, {2, "", tableList{{{0}}, {{0}}}}, {3, "", tableList{{{0}}, {{0}}, {{0}}}},
		{1, "0", tableList{{{0, 1}, {0, 0}}}}, {2, "0", tableList{{{0, 1}, {0, 0}}, {{0, 0}, {0, 0}}}},
		{2, "1", tableList{{{0, 0}, {0, 0}}, {{0, 1}, {0, 0}}}},
		{2, "01", tableList{{{0, 1, 0}, {0, 0, 0}, {0, 0, 0}}, {{0, 0, 0}, {0, 0, 1}, {0, 0, 0}}}},
		{3, "20", tableList{{{0, 0, 0}, {0, 0, 1}, {0, 0, 0}}, flatRows(3, 3, 0), {{0, 1, 0}, {0, 0, 0}, {0, 0, 0}}}},
		{1, "00", tableList{{{0, 1, 0}, {0, 0, 1}, {0, 0, 0}}}},
		{2, "101", tableList{{{0, 0, 0, 0}, {0, 0, 1, 0}, {0, 0, 0, 0}, {0, 0, 0, 0}}, {{0, 1, 0, 0}, {0, 0, 0, 0}, {0, 0, 0, 1}, {0, 0, 0, 0}}}},
	} {
		got, code := impl.TablesOfWord(c.d, c.w)
		if code != impl.ErrNone || !sameTables(got, c.want) {
			t.Errorf("TablesOfWord(%d, %q) = %v, %d, want %v", c.d, c.w, got, code, c.want)
		}
	}
}

// All words of at most 5 letters, also for 3 letters.
func TestTablesOfAllWords(t *testing.T) {
	for d := int64(1); d <= impl.MaxLetter; d++ {
		for _, w := range allWords(d, 5) {
			want := flatTables(d, int64(len(w))+1, int64(len(w))+1, 0)
			for i, letter := range []byte(w) {
				want[letter-'0'][i][i+1] = 1
			}
			got, code := impl.TablesOfWord(d, w)
			if code != impl.ErrNone || !sameTables(got, want) || !impl.AreTables(d, got) {
				t.Errorf("TablesOfWord(%d, %q) = %v, %d", d, w, got, code)
			}
		}
	}
}

func TestTurnTables(t *testing.T) {
	if got := impl.TurnTables(); !sameTables(got, turnTables()) || !impl.AreTables(2, got) {
		t.Errorf("TurnTables = %v", got)
	}
}

func TestTableCommutator(t *testing.T) {
	two := tableList{{{1, 2}, {3, 4}}, {{5, 6}, {7, 8}}}
	three := tableList{{{0, 1, 0}, {0, 0, 2}, {3, 0, 0}}, {{1, 0, 0}, {0, -1, 0}, {0, 0, 1}}, {{1, 2, 3}, {4, 5, 6}, {7, 8, 9}}}
	large := tableList{flatRows(6, 6, impl.MaxWhole), flatRows(6, 6, impl.MaxWhole)}
	for i := range large[1] {
		for k := range large[1][i] {
			if i%2 == 0 {
				large[1][i][k] = -impl.MaxWhole
			}
		}
	}
	for _, c := range []struct {
		d      int64
		tables tableList
		i, k   int64
		want   rowList
	}{
		{1, tableList{{{7}}}, 0, 0, rowList{{0}}}, {2, two, 0, 1, rowList{{-4, -12}, {12, 4}}}, {2, two, 1, 0, rowList{{4, 12}, {-12, -4}}},
		{2, two, 0, 0, flatRows(2, 2, 0)}, {2, two, 1, 1, flatRows(2, 2, 0)}, {2, turnTables(), 0, 1, rowList{{1, 0}, {0, -1}}},
		{2, turnTables(), 1, 0, rowList{{-1, 0}, {0, 1}}}, {3, three, 0, 1, rowList{{0, -2, 0}, {0, 0, 4}, {0, 0, 0}}},
		{3, three, 0, 2, rowList{{-5, 4, 2}, {-4, 12, 8}, {-24, -1, -7}}}, {3, three, 2, 0, rowList{{5, -4, -2}, {4, -12, -8}, {24, 1, 7}}},
		{3, three, 1, 2, rowList{{0, 4, 0}, {-8, 0, -12}, {0, 16, 0}}}, {3, three, 2, 2, flatRows(3, 3, 0)},
		{2, large, 0, 1, slices.Repeat(rowList{flatStep(6, 6000000), flatStep(6, -6000000)}, 3)},
		{2, large, 1, 0, slices.Repeat(rowList{flatStep(6, -6000000), flatStep(6, 6000000)}, 3)},
		{3, diagonalTables(6, 1000, -1000, 1000), 0, 1, flatRows(6, 6, 0)},
	} {
		got, code := impl.TableCommutator(c.d, c.tables, c.i, c.k)
		checkPath(t, "TableCommutator", got, code, c.want)
	}
}

// tellCase is tables, with a level for VanishAt, and what they are told to do.
type tellCase struct {
	d      int64
	tables tableList
	level  int64
	want   bool
}

func TestVanishAt(t *testing.T) {
	upper := tableList{{{0, 1, 2}, {0, 0, 3}, {0, 0, 0}}, {{0, -1, 0}, {0, 0, 7}, {0, 0, 0}}}
	for _, c := range []tellCase{
		{1, tableList{{{0}}}, 0, true}, {1, tableList{{{0}}}, 4, true}, {1, tableList{{{1}}}, 0, false}, {1, tableList{{{1}}}, 4, false},
		{2, tableList{{{0}}, {{-1}}}, 0, false}, {3, tableList{{{0}}, {{0}}, {{0}}}, 0, true}, {3, tableList{{{0}}, {{0}}, {{2}}}, 4, false},
		{2, turnTables(), 0, false}, {2, turnTables(), 1, false}, {2, turnTables(), 4, false},
		{1, turnTables()[:1], 0, false}, {1, turnTables()[:1], 1, true}, {1, turnTables()[1:], 1, true}, {1, turnTables()[1:], 4, true},
		{2, upper, 0, false}, {2, upper, 1, false}, {2, upper, 2, true}, {2, upper, 3, true}, {2, upper, 4, true},
		// Only one word of many is not 0, the first one, the last one, or one between them.
		{2, tableList{{{1, 0}, {0, 0}}, {{0, 0}, {0, 0}}}, 2, false}, {2, tableList{{{0, 0}, {0, 0}}, {{1, 0}, {0, 0}}}, 2, false},
		{2, tableList{{{0, 1}, {0, 0}}, {{0, 0}, {0, 1}}}, 1, false}, {3, tableList{{{0, 1}, {0, 0}}, {{0, 0}, {0, 0}}, {{0, 0}, {1, 0}}}, 4, false},
		{3, tableList{{{0, 1}, {0, 0}}, {{0, 2}, {0, 0}}, {{0, 0}, {0, 0}}}, 1, true},
		// Each matrix has powers that vanish, but their products do not.
		{2, tableList{{{1, -1}, {1, -1}}, {{0, 1}, {0, 0}}}, 1, false}, {2, tableList{{{1, -1}, {1, -1}}, {{2, -2}, {2, -2}}}, 1, true},
		{1, tableList{flatRows(6, 6, 0)}, 0, true},
	} {
		got, code := impl.VanishAt(c.d, c.tables, c.level)
		if got != c.want || code != impl.ErrNone {
			t.Errorf("VanishAt(%d, %v, %d) = %v, %d", c.d, c.tables, c.level, got, code)
		}
	}
}

// The product of a word along its own tables is the only one of its length that is not 0.
func TestTablesOfWordsVanishAtTheirLengths(t *testing.T) {
	for d := int64(1); d <= impl.MaxLetter; d++ {
		for _, w := range allWords(d, 5) {
			tables, _ := impl.TablesOfWord(d, w)
			for level := int64(0); level <= 4; level++ {
				got, code := impl.VanishAt(d, tables, level)
				if got != (level >= int64(len(w))) || code != impl.ErrNone {
					t.Errorf("VanishAt(%d) of the tables of %q at %d = %v, %d", d, w, level, got, code)
				}
			}
		}
	}
}

func TestDoTablesCommute(t *testing.T) {
	shift := rowList{{0, 1, 0}, {0, 0, 1}, {1, 0, 0}}
	back := rowList{{0, 0, 1}, {1, 0, 0}, {0, 1, 0}}
	other := rowList{{0, 1, 0}, {1, 0, 0}, {0, 0, 1}}
	for _, c := range []tellCase{
		{1, tableList{{{1, 2}, {3, 4}}}, 0, true}, {2, turnTables(), 0, false}, {2, tableList{{{1, 2}, {3, 4}}, {{1, 2}, {3, 4}}}, 0, true},
		{3, tableList{{{2}}, {{-3}}, {{1000}}}, 0, true}, {2, tableList{{{1, 2}, {3, 4}}, {{7, 10}, {15, 22}}}, 0, true},
		{2, tableList{{{1, 2}, {3, 4}}, {{1, 2}, {3, 5}}}, 0, false}, {2, tableList{{{1, 0}, {0, 2}}, {{3, 0}, {0, -4}}}, 0, true},
		// One pair of three does not commute.
		{3, tableList{shift, back, unitMap(3)}, 0, true}, {3, tableList{shift, other, unitMap(3)}, 0, false},
		{3, tableList{shift, unitMap(3), other}, 0, false}, {3, tableList{unitMap(3), shift, other}, 0, false}, {3, tableList{shift, back, other}, 0, false},
		// The products differ in one entry alone.
		{2, tableList{{{0, 1, 0}, {0, 0, 0}, {0, 0, 0}}, {{0, 0, 0}, {0, 0, 1}, {0, 0, 0}}}, 0, false},
		{2, tableList{{{0, 0, 0}, {1, 0, 0}, {0, 0, 0}}, {{0, 0, 0}, {0, 0, 0}, {0, 1, 0}}}, 0, false},
		// Products of more letters do not fit.
		{3, diagonalTables(6, 1000, -1000, 999), 0, true}, {2, flatTables(2, 6, 6, 1000), 0, true},
		{2, tableList{flatRows(6, 6, 1000), append(flatRows(5, 6, 1000), flatStep(6, -1000))}, 0, false},
	} {
		got, code := impl.DoTablesCommute(c.d, c.tables)
		if got != c.want || code != impl.ErrNone {
			t.Errorf("DoTablesCommute(%d, %v) = %v, %d", c.d, c.tables, got, code)
		}
	}
}
