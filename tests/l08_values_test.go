package tests

import (
	"slices"
	"strings"
	"testing"

	"loop.example/g01260/impl"
)

// matrix is a matrix of fractions, or a list that may be none.
type matrix = [][]impl.Fraction

// flatMatrix returns rows of a width with the same fraction everywhere.
func flatMatrix(rows int64, width int64, a impl.Fraction) matrix {
	var m matrix
	for range rows {
		m = append(m, slices.Repeat([]impl.Fraction{a}, int(width)))
	}
	return m
}

// wholeMatrix returns whole numbers as fractions.
func wholeMatrix(rows rowList) matrix {
	var m matrix
	for _, row := range rows {
		var list []impl.Fraction
		for _, number := range row {
			list = append(list, fr(number, 1))
		}
		m = append(m, list)
	}
	return m
}

// matrixOf returns the matrix with a text, in which rows stand behind `;`, and whole numbers may stand
// for fractions.
func matrixOf(t *testing.T, text string) matrix {
	t.Helper()
	var m matrix
	for row := range strings.SplitSeq(text, ";") {
		var list []impl.Fraction
		for piece := range strings.FieldsSeq(row) {
			if !strings.Contains(piece, "/") {
				piece += "/1"
			}
			a, code := impl.ParseFraction(piece)
			if code != impl.ErrNone {
				t.Fatalf("ParseFraction(%q): code %d", piece, code)
			}
			list = append(list, a)
		}
		m = append(m, list)
	}
	return m
}

// sameMatrix reports whether two matrices are equal.
func sameMatrix(a matrix, b matrix) bool {
	return slices.EqualFunc(a, b, slices.Equal[[]impl.Fraction])
}

// checkMatrix compares a result with the matrix that has a text, or with ErrLimit and no matrix.
func checkMatrix(t *testing.T, name string, got matrix, code int64, want string) {
	t.Helper()
	if want == noFit {
		checkMatrixError(t, name, got, code, impl.ErrLimit)
		return
	}
	if code != impl.ErrNone || !sameMatrix(got, matrixOf(t, want)) {
		t.Errorf("%s = %v, %d, want %s", name, got, code, want)
	}
}

// checkMatrixError compares a result with an error code and no matrix beside it.
func checkMatrixError(t *testing.T, name string, got matrix, code int64, want int64) {
	t.Helper()
	if code != want || len(got) != 0 {
		t.Errorf("%s = %v, %d, want no matrix and %d", name, got, code, want)
	}
}

// valueCase is a series at tables, with its value as a text.
type valueCase struct {
	d, n   int64
	x      string
	tables tableList
	want   string
}

// checkValues compares values of series.
func checkValues(t *testing.T, cases []valueCase) {
	t.Helper()
	for _, c := range cases {
		got, code := impl.ValueOfSeries(seriesOf(t, c.d, c.n, c.x), c.tables)
		checkMatrix(t, "ValueOfSeries of "+c.x, got, code, c.want)
	}
}

func TestValueOfSeries(t *testing.T) {
	two := tableList{{{1, 2}, {3, 4}}, {{5, 6}, {7, 8}}}
	checkValues(t, []valueCase{
		// Series that are 0, and constants.
		{1, 1, "0", tableList{{{7}}}, "0"}, {2, 3, "0", two, "0 0; 0 0"}, {3, 4, "0", flatTables(3, 3, 3, 1000), "0 0 0; 0 0 0; 0 0 0"},
		{2, 5, "-2/3*", two, "-2/3 0; 0 -2/3"}, {1, 1, "1/1*", tableList{{{0}}}, "1"}, {3, 1, "1000000000/1*", flatTables(3, 2, 2, 1000), "1000000000 0; 0 1000000000"},
		// Words.
		{1, 5, "1/1*0", tableList{{{7}}}, "7"}, {1, 5, "1/1*00000", tableList{{{7}}}, "16807"}, {2, 2, "1/1*0", two, "1 2; 3 4"},
		{2, 2, "1/2*01", two, "19/2 11; 43/2 25"}, {2, 2, "-1/3*10", two, "-23/3 -34/3; -31/3 -46/3"},
		{2, 3, "1/1*010", two, "85 126; 193 286"}, {2, 3, "1/6*010", two, "85/6 21; 193/6 143/3"},
		// Sums.
		{1, 2, "1/2*+1/3*0+1/5*00", tableList{{{-2}}}, "19/30"}, {1, 3, "1/1*+1/1*0+1/2*00+1/6*000", tableList{{{2}}}, "19/3"},
		{2, 2, "1/2*+1/1*0+-1/1*1+1/2*01+1/3*10", two, "41/3 55/3; 167/6 221/6"}, {2, 2, "1/1*01+-1/1*10", two, "-4 -12; 12 4"},
		{2, 1, "1/1*0+1/1*1", tableList{{{1, -1}, {0, 3}}, {{-1, 1}, {0, -3}}}, "0 0; 0 0"},
		// Turns.
		{2, 2, "1/2*01", turnTables(), "1/2 0; 0 0"}, {2, 2, "1/2*10", turnTables(), "0 0; 0 1/2"}, {2, 2, "1/2*00+1/3*11", turnTables(), "0 0; 0 0"},
		{2, 5, "1/2*+1/3*0+1/5*1+1/7*01+1/9*101+1/11*01010", turnTables(), "9/14 14/33; 14/45 1/2"},
		{3, 2, "1/1*2+2/1*02", tableList{{{0, 1}, {0, 0}}, {{5, 5}, {5, 5}}, {{0, 0}, {1, 1}}}, "2 2; 1 1"},
		// Values that the numbers of words take away.
		{1, 1, "1/1000000000*0", tableList{{{1000}}}, "1/1000000"}, {1, 3, "1/1000000000*000", tableList{{{1000}}}, "1"},
		{1, 1, "1000000000/999999999*0", tableList{{{999}}}, "1000000000/1001001"},
	})
}

func TestSolutionAlong(t *testing.T) {
	one, nilpotent := tableList{{{1}}}, tableList{{{0, 1, 0}, {0, 0, 1}, {0, 0, 0}}}
	for _, c := range []struct {
		d, n   int64
		p      path
		tables tableList
		want   string
	}{
		{1, 1, nil, one, "1"}, {2, 3, path{}, turnTables(), "1 0; 0 1"}, {1, 5, path{{0}}, one, "1"}, {3, 4, path{{0, 0, 0}}, flatTables(3, 2, 2, 1000), "1 0; 0 1"},
		// The exponential, as far as the level goes.
		{1, 1, path{{1}}, one, "2"}, {1, 2, path{{1}}, one, "5/2"}, {1, 3, path{{1}}, one, "8/3"}, {1, 4, path{{1}}, one, "65/24"}, {1, 5, path{{1}}, one, "163/60"},
		{1, 5, path{{-1}}, one, "11/30"}, {1, 2, path{{3}}, tableList{{{2}}}, "25"}, {1, 2, path{{1}, {2}}, tableList{{{2}}}, "25"},
		{1, 3, path{{5}}, tableList{{{0}}}, "1"}, {1, 2, path{{5}}, nilpotent, "1 5 25/2; 0 1 5; 0 0 1"}, {1, 5, path{{3}, {2}}, nilpotent, "1 5 25/2; 0 1 5; 0 0 1"},
		{1, 1, path{{5}}, nilpotent, "1 5 0; 0 1 5; 0 0 1"},
		// Turns.
		{2, 2, path{{1, 0}}, turnTables(), "1 1; 0 1"}, {2, 5, path{{1, 0}, {0, 1}}, turnTables(), "2 1; 1 1"}, {2, 5, path{{0, 1}, {1, 0}}, turnTables(), "1 1; 1 2"},
		{2, 2, path{{1, 1}}, turnTables(), "3/2 1; 1 3/2"}, {2, 3, path{{1, -1}}, turnTables(), "1/2 5/6; -5/6 1/2"}, {2, 1, path{{2, 3}}, turnTables(), "1 2; 3 1"},
		{3, 2, path{{1, 0, 2}, {0, 3, 0}}, tableList{{{0, 1}, {0, 0}}, {{0, 0}, {1, 0}}, {{1, 0}, {0, -1}}}, "8 1; -3 1"},
		// The highest levels.
		{3, 4, path{{1, 1, 1}}, tableList{{{1}}, {{1}}, {{-1}}}, "65/24"}, {2, 5, path{{1, 1}}, tableList{{{2}}, {{-1}}}, "163/60"},
	} {
		got, code := impl.SolutionAlong(c.d, c.n, c.p, c.tables)
		checkMatrix(t, "SolutionAlong", got, code, c.want)
	}
}

func TestReadByTables(t *testing.T) {
	for _, c := range []struct {
		d, n       int64
		x, w, want string
	}{
		{1, 1, "0", "", "0/1"}, {1, 1, "0", "0", "0/1"}, {1, 1, "5/7*", "", "5/7"}, {1, 1, "5/7*", "0", "0/1"}, {1, 1, "5/7*+-2/3*0", "0", "-2/3"},
		{2, 2, "1/2*+2/1*0+-1/3*01", "", "1/2"}, {2, 2, "1/2*+2/1*0+-1/3*01", "0", "2/1"}, {2, 2, "1/2*+2/1*0+-1/3*01", "1", "0/1"},
		{2, 2, "1/2*+2/1*0+-1/3*01", "01", "-1/3"}, {2, 2, "1/2*+2/1*0+-1/3*01", "10", "0/1"}, {2, 2, "1/2*+2/1*0+-1/3*01", "00", "0/1"},
		{1, 5, "1/2*0+1/3*00+1/5*000+1/7*0000+1/11*00000", "00000", "1/11"}, {1, 5, "1/2*0+1/3*00+1/5*000+1/7*0000+1/11*00000", "000", "1/5"},
		{2, 5, "1000000000/1*01101+-1000000000/1*10110", "01101", "1000000000/1"}, {2, 5, "1000000000/1*01101+-1/1000000000*10110", "10110", "-1/1000000000"},
		{3, 4, "1/2*0120+1/3*0121+1/5*0122", "0121", "1/3"}, {3, 4, "1/2*0120+1/3*0121+1/5*0122", "2121", "0/1"},
	} {
		got, code := impl.ReadByTables(seriesOf(t, c.d, c.n, c.x), c.w)
		want, _ := impl.ParseFraction(c.want)
		checkFraction(t, "ReadByTables of "+c.x+" at "+c.w, got, code, want, impl.ErrNone)
	}
}

// matrixProduct is two matrices with their product, all as texts.
type matrixProduct struct {
	a, b, want string
}

// checkMatrixProducts compares products of matrices.
func checkMatrixProducts(t *testing.T, cases []matrixProduct) {
	t.Helper()
	for _, c := range cases {
		got, code := impl.MultiplyTables(matrixOf(t, c.a), matrixOf(t, c.b))
		checkMatrix(t, "MultiplyTables of "+c.a+" and "+c.b, got, code, c.want)
	}
}

func TestMultiplyTables(t *testing.T) {
	checkMatrixProducts(t, []matrixProduct{
		{"0", "0", "0"}, {"1", "-5/7", "-5/7"}, {"2/3", "3/2", "1"}, {"-2/3", "1/6", "-1/9"},
		{"1 2; 3 4", "5 6; 7 8", "19 22; 43 50"}, {"5 6; 7 8", "1 2; 3 4", "23 34; 31 46"},
		{"1/2 1/3; 0 1", "2 0; 3 -6", "2 -2; 3 -6"}, {"2 0; 3 -6", "1/2 1/3; 0 1", "1 2/3; 3/2 -5"},
		{"0 1; 0 0", "0 1; 0 0", "0 0; 0 0"}, {"1/2 1/2; 1/2 1/2", "1/2 1/2; 1/2 1/2", "1/2 1/2; 1/2 1/2"},
		{"1/2 -1/2; 1/3 -1/3", "1 2; 1 2", "0 0; 0 0"},
		{"1 2 3; 4 5 6; 7 8 9", "0 1 0; 0 0 1; 1 0 0", "3 1 2; 6 4 5; 9 7 8"}, {"0 1 0; 0 0 1; 1 0 0", "1 2 3; 4 5 6; 7 8 9", "4 5 6; 7 8 9; 1 2 3"},
		{"1/2 1/3 1/4; 1/3 1/4 1/5; 1/4 1/5 1/6", "72 -240 180; -240 900 -720; 180 -720 600", "1 0 0; 0 1 0; 0 0 1"},
	})
	for n := int64(1); n <= impl.MaxRows; n++ {
		got, code := impl.MultiplyTables(flatMatrix(n, n, fr(1, 2)), flatMatrix(n, n, fr(-2, 3)))
		share, _ := impl.FractionOf(-n, 3)
		if code != impl.ErrNone || !sameMatrix(got, flatMatrix(n, n, share)) {
			t.Errorf("MultiplyTables of %d rows = %v, %d", n, got, code)
		}
	}
}
