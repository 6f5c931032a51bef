package tests

import (
	"testing"

	"loop.example/g01260/impl"
)

// maxEntry is the limit of the whole numbers in products of words.
const maxEntry = 1000000000

// cornerTables returns tables of 4 rows with the product of 012 having its only number, 1000000000 and
// another one together, at its right upper corner, so that the product of 0120 is 0.
func cornerTables(other int64, sign int64) tableList {
	tables := flatTables(3, 4, 4, 0)
	tables[0][0][1], tables[0][0][2] = 1000, 1
	tables[1][1][1], tables[1][2][2] = 1000, 1
	tables[2][1][3], tables[2][2][3] = 1000*sign, other
	return tables
}

// layeredTables returns a table of 6 rows whose power 3 has its only number, 1000000000 and another one
// together, at its right upper corner, so that the power 4 is 0.
func layeredTables(other int64, sign int64) tableList {
	table := flatRows(6, 6, 0)
	table[0][1], table[0][2] = 1000, 1
	table[1][3], table[2][4] = 1000, 1
	table[3][5], table[4][5] = 1000*sign, other
	return tableList{table}
}

// cornerRows returns 4 rows of zeros but for a number at the right upper corner.
func cornerRows(number int64) rowList {
	rows := flatRows(4, 4, 0)
	rows[0][3] = number
	return rows
}

func TestProductsOfWordsAtTheLimit(t *testing.T) {
	checkProducts(t, []productCase{
		{1, tableList{{{1000}}}, "000", rowList{{maxEntry}}}, {1, tableList{{{-1000}}}, "000", rowList{{-maxEntry}}},
		{1, tableList{{{1000}}}, "0000", nil}, {1, tableList{{{-1000}}}, "0000", nil}, {1, tableList{{{1000}}}, "00000", nil},
		{1, tableList{{{63}}}, "00000", rowList{{992436543}}}, {1, tableList{{{64}}}, "00000", nil}, {1, tableList{{{-64}}}, "00000", nil},
		{2, tableList{{{1000}}, {{1}}}, "01010", rowList{{maxEntry}}}, {2, tableList{{{1000}}, {{-1}}}, "01010", rowList{{maxEntry}}},
		{2, tableList{{{1000}}, {{-1}}}, "0100", rowList{{-maxEntry}}}, {2, tableList{{{1000}}, {{2}}}, "0100", nil}, {2, tableList{{{1000}}, {{-2}}}, "0010", nil},
		// Beyond the limit by one.
		{3, cornerTables(0, 1), "012", cornerRows(maxEntry)}, {3, cornerTables(1, 1), "012", nil}, {3, cornerTables(-1, 1), "012", cornerRows(maxEntry - 1)},
		{3, cornerTables(0, -1), "012", cornerRows(-maxEntry)}, {3, cornerTables(-1, -1), "012", nil}, {3, cornerTables(1, -1), "012", cornerRows(1 - maxEntry)},
		// Large sums of 6 products.
		{1, tableList{flatRows(6, 6, 1000)}, "000", nil}, {1, tableList{flatRows(6, 6, 100)}, "000", flatRows(6, 6, 36000000)},
		{1, tableList{flatRows(6, 6, -302)}, "000", flatRows(6, 6, -991569888)}, {1, tableList{flatRows(6, 6, 303)}, "000", nil},
	})
}

// What is too great in the product of a beginning of a word is so for the word, also if its own product
// is not.
func TestProductsOfBeginningsAtTheLimit(t *testing.T) {
	stop := tableList{{{1000, 0}, {0, 0}}, {{0, 0}, {0, 1}}}
	checkProducts(t, []productCase{
		{3, cornerTables(0, 1), "0120", flatRows(4, 4, 0)}, {3, cornerTables(1, 1), "0120", nil}, {3, cornerTables(-1, 1), "0120", flatRows(4, 4, 0)},
		{3, cornerTables(0, -1), "0120", flatRows(4, 4, 0)}, {3, cornerTables(-1, -1), "0120", nil}, {3, cornerTables(1, -1), "01200", flatRows(4, 4, 0)},
		{3, cornerTables(1, 1), "01202", nil}, {3, cornerTables(1, 1), "01", rowList{{0, 1000000, 1, 0}, {0, 0, 0, 0}, {0, 0, 0, 0}, {0, 0, 0, 0}}},
		// Ends of words, and words without them, do not count.
		{3, cornerTables(1, 1), "2012", flatRows(4, 4, 0)}, {3, cornerTables(1, 1), "0012", flatRows(4, 4, 0)}, {3, cornerTables(1, 1), "1012", flatRows(4, 4, 0)},
		{2, stop, "0001", flatRows(2, 2, 0)}, {2, stop, "00010", flatRows(2, 2, 0)}, {2, stop, "00001", nil}, {2, stop, "10000", flatRows(2, 2, 0)},
		{2, stop, "01000", flatRows(2, 2, 0)}, {2, stop, "0000", nil}, {2, stop, "000", rowList{{maxEntry, 0}, {0, 0}}},
	})
}

// Sums on the way to a whole number may be beyond the limit.
func TestSumsOnTheWayToWholeNumbers(t *testing.T) {
	tables := tableList{
		{{1000, 1000, 1000}, {0, 0, 0}, {0, 0, 0}},
		{{1000, 0, 0}, {0, 1000, 0}, {0, 0, 1000}},
		{{1000, 0, 0}, {1000, 0, 0}, {-1000, 0, 0}},
	}
	checkProducts(t, []productCase{{3, tables, "012", rowList{{maxEntry, 0, 0}, {0, 0, 0}, {0, 0, 0}}}})
	tables[2][2][0] = -999
	checkProducts(t, []productCase{{3, tables, "012", nil}})
	tables[2][0][0], tables[2][1][0], tables[2][2][0] = -1000, -1000, 1000
	checkProducts(t, []productCase{{3, tables, "012", rowList{{-maxEntry, 0, 0}, {0, 0, 0}, {0, 0, 0}}}})
}

// Wherever in the matrix a number is too great.
func TestProductsOfWordsWithOneLargeNumber(t *testing.T) {
	for n := int64(1); n <= impl.MaxRows; n++ {
		for i := range n {
			for k := range n {
				tables := flatTables(3, n, n, 0)
				tables[0][i][0], tables[1][0][0], tables[2][0][k] = 1000, -1000, 1000
				want := flatRows(n, n, 0)
				want[i][k] = -maxEntry
				checkProducts(t, []productCase{{3, tables, "012", want}, {3, tables, "0112", nil}, {3, tables, "01112", nil}})
			}
		}
	}
}

func TestVanishingProductsAtTheLimit(t *testing.T) {
	stop := tableList{{{1000, 0}, {0, 0}}, {{0, 0}, {0, 1}}}
	check := func(tables tableList, level int64, want bool, wantCode int64) {
		t.Helper()
		got, code := impl.VanishAt(int64(len(tables)), tables, level)
		if got != want || code != wantCode {
			t.Errorf("VanishAt(%v, %d) = %v, %d", tables, level, got, code)
		}
	}
	check(tableList{{{1000}}}, 2, false, impl.ErrNone)
	check(tableList{{{1000}}}, 3, false, impl.ErrLimit)
	check(tableList{{{-1000}}}, 2, false, impl.ErrNone)
	check(tableList{{{-1000}}}, 4, false, impl.ErrLimit)
	check(tableList{{{63}}}, 4, false, impl.ErrNone)
	check(tableList{{{64}}}, 4, false, impl.ErrLimit)
	// All words of the length vanish, but they have a beginning that is too great.
	for level := int64(3); level <= 4; level++ {
		check(layeredTables(0, 1), level, true, impl.ErrNone)
		check(layeredTables(-1, 1), level, true, impl.ErrNone)
		check(layeredTables(1, 1), level, false, impl.ErrLimit)
		check(layeredTables(0, -1), level, true, impl.ErrNone)
		check(layeredTables(-1, -1), level, false, impl.ErrLimit)
	}
	check(layeredTables(-1, 1), 2, false, impl.ErrNone)
	check(layeredTables(1, 1), 2, false, impl.ErrLimit)
	check(layeredTables(1, 1), 1, false, impl.ErrNone)
	check(cornerTables(1, 1), 2, false, impl.ErrLimit)
	check(cornerTables(-1, 1), 2, false, impl.ErrNone)
	// What is not 0 does not hide what is too great, be it ahead or behind.
	check(tableList{{{1}}, {{1000}}}, 3, false, impl.ErrLimit)
	check(tableList{{{1000}}, {{1}}}, 3, false, impl.ErrLimit)
	check(tableList{{{1}}, {{1000}}}, 2, false, impl.ErrNone)
	check(tableList{{{0}}, {{1}}, {{-1000}}}, 4, false, impl.ErrLimit)
	check(stop, 2, false, impl.ErrNone)
	check(stop, 3, false, impl.ErrLimit)
	check(stop, 4, false, impl.ErrLimit)
	check(tableList{flatRows(6, 6, 1000)}, 1, false, impl.ErrNone)
	check(tableList{flatRows(6, 6, 1000)}, 2, false, impl.ErrLimit)
}

// A word whose product does not fit, or that of a beginning, is enough, however small the value there is.
func TestValuesWithLargeProducts(t *testing.T) {
	checkValues(t, []valueCase{
		{1, 3, "1/1*000", tableList{{{1000}}}, "1000000000"}, {1, 3, "-1/1*000", tableList{{{-1000}}}, "1000000000"}, {1, 4, "1/1000000000*0000", tableList{{{1000}}}, noFit},
		{1, 4, "1/1000000000*0000", tableList{{{-1000}}}, noFit}, {1, 5, "1/7*00000", tableList{{{64}}}, noFit}, {1, 5, "1/7*00000", tableList{{{63}}}, "141776649"},
		{1, 4, "0", tableList{{{1000}}}, "0"}, {1, 5, "1/1*0+1/1*000", tableList{{{100}}}, "1000100"},
		{3, 4, "1/1*0120", cornerTables(0, 1), "0 0 0 0; 0 0 0 0; 0 0 0 0; 0 0 0 0"}, {3, 4, "1/1*0120", cornerTables(1, 1), noFit}, {3, 4, "1/1*0120", cornerTables(-1, -1), noFit},
		{3, 4, "1/1000000000*0+1/1*0121", cornerTables(-1, -1), noFit}, {3, 3, "1/2*012", cornerTables(1, 1), noFit}, {3, 4, "1/1*2012", cornerTables(1, 1), "0 0 0 0; 0 0 0 0; 0 0 0 0; 0 0 0 0"},
		{3, 3, "1/2*012", cornerTables(0, -1), "0 0 0 -500000000; 0 0 0 0; 0 0 0 0; 0 0 0 0"},
	})
}

// A value times an entry has to fit.
func TestMultiplesOfEntriesAtTheLimit(t *testing.T) {
	checkValues(t, []valueCase{
		{1, 1, "1000000000/1*0", tableList{{{1}}}, "1000000000"}, {1, 1, "1000000000/1*0", tableList{{{-1}}}, "-1000000000"}, {1, 1, "1000000000/1*0", tableList{{{2}}}, noFit},
		{1, 1, "1000000/1*0", tableList{{{1000}}}, "1000000000"}, {1, 1, "1000001/1*0", tableList{{{1000}}}, noFit}, {1, 1, "1000001/1*0", tableList{{{-1000}}}, noFit},
		{1, 1, "500000000/1*0", tableList{{{-2}}}, "-1000000000"}, {1, 1, "-500000001/1*0", tableList{{{2}}}, noFit}, {1, 1, "1000000000/999999999*0", tableList{{{2}}}, noFit},
		{1, 1, "1000000000/1*0", tableList{{{0}}}, "0"}, {1, 1, "1/1000000000*0", tableList{{{999}}}, "999/1000000000"}, {1, 3, "1/1000000000*000", tableList{{{-1000}}}, "-1"},
		{1, 3, "2/1*000", tableList{{{1000}}}, noFit}, {1, 2, "1000/1*00", tableList{{{1000}}}, "1000000000"}, {1, 2, "1001/1*00", tableList{{{1000}}}, noFit},
		// One entry of many is enough.
		{1, 1, "500000001/1*0", tableList{{{1, 1}, {2, 1}}}, noFit}, {1, 1, "500000001/1*0", tableList{{{1, 1}, {1, -2}}}, noFit},
		{1, 1, "500000001/1*0", tableList{{{1, 0}, {-1, 1}}}, "500000001 0; -500000001 500000001"},
		// The sum with what there is would fit.
		{1, 1, "-1000000000/1*+500000001/1*0", tableList{{{2}}}, noFit}, {1, 1, "-1000000000/1*+500000000/1*0", tableList{{{2}}}, "0"},
		{2, 1, "1000000000/1*0+-500000001/1*1", tableList{{{1}}, {{2}}}, noFit}, {2, 1, "1000000000/1*0+-500000000/1*1", tableList{{{1}}, {{2}}}, "0"},
	})
}

// Whether sums fit depends on their order, which is that of the terms.
func TestSumsOfValuesFitOnTheWay(t *testing.T) {
	one, two, three := tableList{{{1}}}, tableList{{{1}}, {{1}}}, tableList{{{1}}, {{1}}, {{1}}}
	checkValues(t, []valueCase{
		{1, 1, "1000000000/1*+1/1*0", one, noFit}, {1, 1, "1000000000/1*+-1/1*0", one, "999999999"}, {1, 1, "-1000000000/1*+-1/1*0", one, noFit},
		{1, 1, "1000000000/1*+1/1000000000*0", one, noFit}, {1, 1, "999999999/1*+1/1*0", one, "1000000000"},
		{2, 1, "600000000/1*+600000000/1*0+-600000000/1*1", two, noFit}, {2, 1, "600000000/1*+-600000000/1*0+600000000/1*1", two, "600000000"},
		{2, 1, "-600000000/1*+600000000/1*0+600000000/1*1", two, "600000000"}, {2, 1, "600000000/1*+600000000/1*0+600000000/1*1", tableList{{{1}}, {{-1}}}, noFit},
		{2, 1, "600000000/1*+600000000/1*0+600000000/1*1", tableList{{{-1}}, {{1}}}, "600000000"},
		// Words by their lengths, and then as texts.
		{2, 2, "600000000/1*1+600000000/1*00+-600000000/1*01", two, noFit}, {2, 2, "600000000/1*1+-600000000/1*00+600000000/1*01", two, "600000000"},
		{2, 2, "600000000/1*00+600000000/1*01+-600000000/1*10", two, noFit}, {2, 2, "600000000/1*00+-600000000/1*01+600000000/1*10", two, "600000000"},
		// Denominators that do not fit together.
		{3, 1, "1/31607*0+1/31643*1+-1/31607*2", three, noFit}, {3, 1, "1/31607*0+-1/31607*1+1/31643*2", three, "1/31643"}, {2, 1, "1/31607*0+1/31601*1", two, "63208/998812807"},
		// Entries go for themselves.
		{2, 1, "600000000/1*0+600000000/1*1", tableList{{{1, 0}, {0, 1}}, {{0, 1}, {1, 0}}}, "600000000 600000000; 600000000 600000000"},
		{2, 1, "600000000/1*0+600000000/1*1", tableList{{{1, 0}, {1, 1}}, {{0, 1}, {1, 0}}}, noFit},
		{2, 1, "1000000000/1*0+1000000000/1*1", tableList{{{1, 0}, {0, -1}}, {{-1, 0}, {0, 1}}}, "0 0; 0 0"},
	})
}

func TestSolutionsAtTheLimit(t *testing.T) {
	zeros := tableList{{{0}}}
	for _, c := range []struct {
		d, n   int64
		p      path
		tables tableList
		want   string
	}{
		// The signature does not fit, whatever the tables are.
		{1, 4, path{{100}}, zeros, "1"}, {1, 5, path{{100}}, zeros, noFit}, {1, 4, repeated(12, 100), zeros, noFit}, {1, 3, repeated(12, 100), zeros, "1"},
		{1, 4, path{{100}, {-100}}, zeros, "1"}, {1, 5, path{{100}, {-100}}, zeros, noFit}, {2, 5, path{{100, 99}, {-99, 100}}, tableList{{{0}}, {{0}}}, noFit},
		// The products of words do not fit.
		{1, 3, path{{1}}, tableList{{{1000}}}, "501503003/3"}, {1, 4, path{{1}}, tableList{{{1000}}}, noFit}, {1, 4, path{{0}}, tableList{{{1000}}}, "1"}, {1, 4, nil, tableList{{{1000}}}, "1"},
		{1, 5, path{{1}}, layeredTables(-1, 1), "1 1000 1 500000 1/2 333333333/2; 0 1 0 1000 0 500000; 0 0 1 0 1 -1/2; 0 0 0 1 0 1000; 0 0 0 0 1 -1; 0 0 0 0 0 1"},
		{1, 3, path{{1}}, layeredTables(1, 1), noFit}, {1, 5, path{{1}}, layeredTables(-1, -1), noFit}, {3, 3, path{{1, 1, 1}}, cornerTables(1, 1), noFit},
		// A value times an entry, or a sum, does not fit.
		{1, 1, path{{100}}, tableList{{{1000}}}, "100001"}, {1, 2, path{{100}}, tableList{{{1000}}}, noFit}, {1, 2, path{{44}}, tableList{{{1000}}}, "968044001"},
		{1, 2, path{{45}}, tableList{{{1000}}}, noFit}, {1, 2, path{{44}}, tableList{{{-1000}}}, "967956001"},
		{1, 3, path{{12}}, tableList{{{150}}}, "973621801"}, {1, 3, path{{12}}, tableList{{{152}}}, noFit},
	} {
		got, code := impl.SolutionAlong(c.d, c.n, c.p, c.tables)
		checkMatrix(t, "SolutionAlong", got, code, c.want)
	}
}

func TestMatrixProductsAtTheLimit(t *testing.T) {
	checkMatrixProducts(t, []matrixProduct{
		{"1000000000", "1", "1000000000"}, {"1000000000", "-1", "-1000000000"}, {"500000000", "2", "1000000000"}, {"500000001", "2", noFit}, {"500000001", "-2", noFit},
		{"31623", "31623", noFit}, {"31622", "31622", "999950884"}, {"1/31623", "1/31623", noFit}, {"1/31622", "1/31622", "1/999950884"},
		{"1000000000", "1/1000000000", "1"}, {"1/1000000000", "1/2", noFit}, {"0", "1000000000", "0"},
		// Sums from the first row and column on.
		{"1000000000 1; 0 0", "1 0; 1 0", noFit}, {"1000000000 1; 0 0", "1 0; -1 0", "999999999 0; 0 0"}, {"999999999 1; 0 0", "1 0; 1 0", "1000000000 0; 0 0"},
		{"600000000 600000000 -600000000; 0 0 0; 0 0 0", "1 0 0; 1 0 0; 1 0 0", noFit}, {"600000000 -600000000 600000000; 0 0 0; 0 0 0", "1 0 0; 1 0 0; 1 0 0", "600000000 0 0; 0 0 0; 0 0 0"},
		{"-600000000 600000000 600000000; 0 0 0; 0 0 0", "1 0 0; 1 0 0; 1 0 0", "600000000 0 0; 0 0 0; 0 0 0"}, {"1 1 1; 0 0 0; 0 0 0", "600000000 0 0; 600000000 0 0; -600000000 0 0", noFit},
		{"1 1 1; 0 0 0; 0 0 0", "600000000 0 0; -600000000 0 0; 600000000 0 0", "600000000 0 0; 0 0 0; 0 0 0"},
		{"1/31607 1/31643 -1/31607; 0 0 0; 0 0 0", "1 0 0; 1 0 0; 1 0 0", noFit}, {"1/31607 -1/31607 1/31643; 0 0 0; 0 0 0", "1 0 0; 1 0 0; 1 0 0", "1/31643 0 0; 0 0 0; 0 0 0"},
		// A product that does not fit, in a sum that would.
		{"1000000000 500000001; 0 0", "-1 0; 2 0", noFit}, {"1000000000 500000000; 0 0", "-1 0; 2 0", "0 0; 0 0"}, {"500000001 1000000000; 0 0", "2 0; -1 0", noFit},
	})
	// One entry of many is enough, wherever it is.
	for n := int64(1); n <= impl.MaxRows; n++ {
		for i := range n {
			for k := range n {
				a, b := flatMatrix(n, n, zero), flatMatrix(n, n, zero)
				a[i][0], b[0][k] = fr(500000000, 1), fr(2, 1)
				want := flatMatrix(n, n, zero)
				want[i][k] = fr(impl.MaxPart, 1)
				if got, code := impl.MultiplyTables(a, b); code != impl.ErrNone || !sameMatrix(got, want) {
					t.Errorf("MultiplyTables(%v, %v) = %v, %d", a, b, got, code)
				}
				a[i][0] = fr(500000001, 1)
				got, code := impl.MultiplyTables(a, b)
				checkMatrixError(t, "MultiplyTables", got, code, impl.ErrLimit)
			}
		}
	}
}

// Values at words fit if the series is one: no sum with other values is made.
func TestValuesReadByTablesAlwaysFit(t *testing.T) {
	eachShape(func(d int64, n int64) {
		x := largeSeries(d, n)
		for _, w := range allWords(d, n) {
			got, code := impl.ReadByTables(x, w)
			checkFraction(t, "ReadByTables at "+w, got, code, fr(impl.MaxPart, 1), impl.ErrNone)
		}
	})
	x := seriesOf(t, 2, 5, "1/1000000000*+1/999999999*0+1/999999998*00000")
	got, code := impl.ReadByTables(x, "00000")
	checkFraction(t, "ReadByTables", got, code, fr(1, 999999998), impl.ErrNone)
}
