package tests

import (
	"slices"
	"testing"

	"loop.example/g01260/impl"
)

// coordinatesOf returns the coordinates with a text, written as that of a series.
func coordinatesOf(t *testing.T, d int64, n int64, text string) []impl.Term {
	t.Helper()
	return seriesOf(t, d, n, text).Terms
}

// checkCoordinates compares a result with the coordinates that have a text.
func checkCoordinates(t *testing.T, name string, list []impl.Term, code int64, d int64, n int64, text string) {
	t.Helper()
	if code != impl.ErrNone || !slices.Equal(list, coordinatesOf(t, d, n, text)) {
		t.Errorf("%s = %v, %d, want %q", name, list, code, text)
	}
}

// checkCoordinatesError compares a result with an error code and no coordinates beside it.
func checkCoordinatesError(t *testing.T, name string, list []impl.Term, code int64, want int64) {
	t.Helper()
	if code != want || len(list) != 0 {
		t.Errorf("%s = %v, %d, want nothing and %d", name, list, code, want)
	}
}

// lieCases are Lie series with their coordinates.
func lieCases() []seriesCase {
	return []seriesCase{
		{1, 1, "0", "0"}, {2, 2, "0", "0"}, {3, 4, "0", "0"},
		{1, 1, "3/2*0", "3/2*0"}, {1, 5, "-1/7*0", "-1/7*0"}, {2, 2, "1/1*1", "1/1*1"}, {3, 1, "1/1*0+2/1*1+-3/1*2", "1/1*0+2/1*1+-3/1*2"},
		{2, 2, "1/1*01+-1/1*10", "1/1*01"}, {2, 5, "1/3*01+-1/3*10", "1/3*01"}, {3, 2, "2/1*12+-2/1*21", "2/1*12"},
		{2, 2, "2/1*0+-1/3*1+1/2*01+-1/2*10", "2/1*0+-1/3*1+1/2*01"},
		{2, 3, "1/1*0+1/1*1+1/2*01+-1/2*10+1/12*001+-1/6*010+1/12*011+1/12*100+-1/6*101+1/12*110",
			"1/1*0+1/1*1+1/2*01+1/12*001+1/12*011"},
		// Brackets that share words, one of which has the coordinate 0, or the value 0.
		{3, 3, "1/1*012+-1/1*021+-1/1*120+1/1*210", "1/1*012"},
		{3, 3, "1/1*021+-1/1*102+1/1*120+-1/1*201", "1/1*021"},
		{3, 3, "1/1*012+-1/1*102+-1/1*201+1/1*210", "1/1*012+1/1*021"},
		{3, 3, "1/3*012+-1/6*021+-1/6*102+-1/6*120+-1/6*201+1/3*210", "1/3*012+1/6*021"},
		{2, 4, "-1/1*0011+2/1*0101+-2/1*1010+1/1*1100", "-1/1*0011"},
		{2, 5, "1/1*00011+-1/1*00101+-2/1*00110+-3/1*01001+8/1*01010+-2/1*01100+2/1*10001+-3/1*10010+-1/1*10100+1/1*11000",
			"1/1*00011+1/1*00101"},
	}
}

func TestLieCoordinates(t *testing.T) {
	for _, c := range lieCases() {
		list, code := impl.LieCoordinates(seriesOf(t, c.d, c.n, c.x))
		checkCoordinates(t, "LieCoordinates of "+c.x, list, code, c.d, c.n, c.want)
	}
}

func TestSeriesOfCoordinates(t *testing.T) {
	for _, c := range lieCases() {
		x, code := impl.SeriesOfCoordinates(c.d, c.n, coordinatesOf(t, c.d, c.n, c.want))
		checkSeries(t, "SeriesOfCoordinates "+c.want, x, code, c.d, c.n, c.x)
	}
	for _, list := range [][]impl.Term{nil, {}} {
		x, code := impl.SeriesOfCoordinates(2, 3, list)
		checkSeries(t, "SeriesOfCoordinates of nothing", x, code, 2, 3, "0")
	}
}

func TestSeriesThatAreNoLieSeries(t *testing.T) {
	for _, c := range []struct {
		d, n int64
		x    string
	}{
		// A constant.
		{2, 2, "1/1*"}, {1, 1, "-5/2*"}, {2, 2, "1/1*+1/1*0"}, {2, 2, "-5/2*+1/1*01+-1/1*10"}, {1, 2, "1/1*+1/1*0+1/2*00"},
		// The first term.
		{1, 2, "1/1*00"}, {2, 2, "1/1*00"}, {2, 2, "1/1*10"}, {2, 2, "1/1*11"}, {2, 2, "-1/1*10+1/1*11"}, {2, 3, "1/1*010"},
		{3, 2, "1/1*21"}, {2, 4, "1/1*0101"}, {2, 2, "1/1*00+1/1*01+-1/1*10"}, {1, 5, "2/1*00000"},
		// A later term.
		{2, 2, "1/1*01"}, {2, 2, "1/1*01+1/1*10"}, {2, 2, "1/1*0+1/1*00"}, {1, 2, "1/1*0+1/2*00"}, {2, 2, "1/1*0+1/1*1+1/2*01+-1/3*10"},
		{2, 3, "1/1*01+-1/1*10+1/1*000"}, {2, 2, "1/1*01+-1/1*10+1/1*11"}, {2, 3, "1/1*001+-2/1*010+2/1*100"},
		{3, 3, "1/1*012+-1/1*021"}, {3, 3, "1/1*012+-1/1*021+-1/1*120+1/1*201"}, {2, 5, "1/1*0+1/1*11111"},
	} {
		list, code := impl.LieCoordinates(seriesOf(t, c.d, c.n, c.x))
		checkCoordinatesError(t, "LieCoordinates of "+c.x, list, code, impl.ErrState)
	}
}

func TestPathCoordinates(t *testing.T) {
	for _, c := range []struct {
		d, n int64
		p    path
		want string
	}{
		{1, 1, nil, "0"}, {2, 5, nil, "0"}, {3, 4, path{}, "0"}, {2, 3, path{{0, 0}}, "0"},
		{1, 1, path{{-100}}, "-100/1*0"}, {1, 5, path{{2}, {3}}, "5/1*0"}, {1, 5, path{{2}, {-2}}, "0"},
		{2, 1, path{{1, 0}, {0, 1}}, "1/1*0+1/1*1"}, {2, 5, path{{3, -4}}, "3/1*0+-4/1*1"}, {3, 4, path{{3, -4, 5}}, "3/1*0+-4/1*1+5/1*2"},
		{2, 2, path{{1, 0}, {0, 1}}, "1/1*0+1/1*1+1/2*01"}, {2, 2, path{{0, 1}, {1, 0}}, "1/1*0+1/1*1+-1/2*01"},
		{2, 5, path{{1, 0}, {0, 1}}, "1/1*0+1/1*1+1/2*01+1/12*001+1/12*011+1/24*0011+" +
			"-1/720*00001+1/180*00011+1/360*00101+1/180*00111+1/120*01011+-1/720*01111"},
		{2, 4, path{{1, 0}, {0, 1}, {-1, 0}, {0, -1}}, "1/1*01+1/2*001+-1/2*011+1/6*0001+-1/4*0011+1/6*0111"},
		{2, 4, path{{1, 2}, {3, -1}}, "4/1*0+1/1*1+-7/2*01+7/6*001+7/4*011+7/8*0001+-35/24*0011+-7/12*0111"},
		{3, 3, path{{1, 0, 0}, {0, 1, 0}, {0, 0, 1}}, "1/1*0+1/1*1+1/1*2+1/2*01+1/2*02+1/2*12+1/12*001+1/12*002+1/12*011+" +
			"1/3*012+1/6*021+1/12*022+1/12*112+1/12*122"},
	} {
		list, code := impl.PathCoordinates(c.d, c.n, c.p)
		checkCoordinates(t, "PathCoordinates", list, code, c.d, c.n, c.want)
	}
}

func TestMultiplyCoordinates(t *testing.T) {
	for _, c := range []pairCase{
		{2, 3, "0", "0", "0"}, {2, 3, "1/2*0+1/3*011", "0", "1/2*0+1/3*011"}, {2, 3, "0", "1/2*0+1/3*011", "1/2*0+1/3*011"},
		{1, 1, "1/2*0", "1/3*0", "5/6*0"}, {1, 5, "1/1*0", "2/1*0", "3/1*0"}, {1, 5, "1/1*0", "-1/1*0", "0"},
		{2, 1, "1/1*0", "1/1*1", "1/1*0+1/1*1"}, {2, 2, "1/1*0", "1/1*1", "1/1*0+1/1*1+1/2*01"},
		{2, 2, "1/1*1", "1/1*0", "1/1*0+1/1*1+-1/2*01"}, {3, 2, "2/1*1", "3/1*2", "2/1*1+3/1*2+3/1*12"},
		{2, 3, "1/1*0", "1/1*1", "1/1*0+1/1*1+1/2*01+1/12*001+1/12*011"},
		{2, 4, "1/1*0", "1/1*1", "1/1*0+1/1*1+1/2*01+1/12*001+1/12*011+1/24*0011"},
		{2, 3, "1/1*0", "1/1*01", "1/1*0+1/1*01+1/2*001"}, {2, 3, "1/1*01", "1/1*1", "1/1*1+1/1*01+1/2*011"},
		{2, 3, "1/1*1", "1/1*01", "1/1*1+1/1*01+-1/2*011"}, {2, 3, "1/1*01", "1/1*001", "1/1*01+1/1*001"},
		{2, 5, "1/1*001", "1/1*01", "1/1*01+1/1*001+1/2*00101"}, {2, 5, "1/1*01", "1/1*011", "1/1*01+1/1*011+1/2*01011"},
		{2, 2, "1/1*0+1/1*1", "1/1*0+1/1*1", "2/1*0+2/1*1"}, {2, 2, "1/1*0+1/1*01", "-1/1*0+-1/1*01", "0"},
		{3, 3, "1/1*0", "1/1*12", "1/1*0+1/1*12+1/2*012"}, {3, 3, "1/1*02", "1/1*1", "1/1*1+1/1*02+1/2*021"},
	} {
		list, code := impl.MultiplyCoordinates(c.d, c.n, coordinatesOf(t, c.d, c.n, c.x), coordinatesOf(t, c.d, c.n, c.y))
		checkCoordinates(t, "MultiplyCoordinates "+c.x+" and "+c.y, list, code, c.d, c.n, c.want)
	}
}

func TestInverseCoordinates(t *testing.T) {
	for _, c := range []seriesCase{
		{1, 1, "0", "0"}, {3, 4, "0", "0"}, {1, 1, "1/1*0", "-1/1*0"}, {2, 2, "1/1*0+-1/2*1+3/7*01", "-1/1*0+1/2*1+-3/7*01"},
		{3, 4, "-1/9*2+1/1*012+1/1*021+-5/1*0102", "1/9*2+-1/1*012+-1/1*021+5/1*0102"},
		// No series is made of them, so that they need not fit there.
		{2, 5, "1000000000/1*0+-1000000000/1*001+1/1000000000*00101", "-1000000000/1*0+1000000000/1*001+-1/1000000000*00101"},
	} {
		list, code := impl.InverseCoordinates(c.d, c.n, coordinatesOf(t, c.d, c.n, c.x))
		checkCoordinates(t, "InverseCoordinates "+c.x, list, code, c.d, c.n, c.want)
	}
}

func TestSignatureOfCoordinates(t *testing.T) {
	for _, c := range []seriesCase{
		{1, 1, "0", "1/1*"}, {3, 4, "0", "1/1*"}, {1, 3, "2/1*0", "1/1*+2/1*0+2/1*00+4/3*000"}, {2, 1, "1/2*1", "1/1*+1/2*1"},
		{2, 2, "1/1*01", "1/1*+1/1*01+-1/1*10"}, {2, 3, "1/1*01", "1/1*+1/1*01+-1/1*10"},
		{2, 4, "1/1*01", "1/1*+1/1*01+-1/1*10+1/2*0101+-1/2*0110+-1/2*1001+1/2*1010"},
		{2, 2, "1/1*0+1/1*1+1/2*01", "1/1*+1/1*0+1/1*1+1/2*00+1/1*01+1/2*11"},
		{3, 3, "1/1*012", "1/1*+1/1*012+-1/1*021+-1/1*120+1/1*210"},
	} {
		x, code := impl.SignatureOfCoordinates(c.d, c.n, coordinatesOf(t, c.d, c.n, c.x))
		checkSeries(t, "SignatureOfCoordinates "+c.x, x, code, c.d, c.n, c.want)
	}
}
