package tests

import (
	"testing"

	"loop.example/g01260/impl"
)

// crossed is a Lie series with the coordinates 3 and -3 times 10^8 at 00011 and 00101. The value at
// 01010 is 0, but that of each summand alone is 1200000000.
const crossed = "300000000/1*00011+-900000000/1*00101+900000000/1*01001+-600000000/1*10001+" +
	"900000000/1*10010+-900000000/1*10100+300000000/1*11000"

// crossedBehind has the coordinates -1 and 3 times 10^8 there, of which only the second summand has a
// value that is too great.
const crossedBehind = "-100000000/1*00011+500000000/1*00101+-200000000/1*00110+-900000000/1*01001+800000000/1*01010+" +
	"-200000000/1*01100+600000000/1*10001+-900000000/1*10010+500000000/1*10100+-100000000/1*11000"

// uncrossed has the coordinates 2.5 and -2.5 times 10^8 there.
const uncrossed = "250000000/1*00011+-750000000/1*00101+750000000/1*01001+-500000000/1*10001+" +
	"750000000/1*10010+-750000000/1*10100+250000000/1*11000"

func TestSeriesOfCoordinatesFitOnTheWay(t *testing.T) {
	for _, c := range []seriesCase{
		{1, 1, "1000000000/1*0", "1000000000/1*0"}, {2, 2, "1000000000/1*01", "1000000000/1*01+-1000000000/1*10"},
		{2, 2, "-1/1000000000*01", "-1/1000000000*01+1/1000000000*10"},
		{2, 3, "500000000/1*001", "500000000/1*001+-1000000000/1*010+500000000/1*100"}, {2, 3, "500000001/1*001", noFit},
		{2, 3, "-500000001/1*011", noFit}, {2, 3, "1/1000000000*001", "1/1000000000*001+-1/500000000*010+1/1000000000*100"},
		{2, 4, "333333333/1*0001", "333333333/1*0001+-999999999/1*0010+999999999/1*0100+-333333333/1*1000"},
		{2, 4, "333333334/1*0001", noFit}, {2, 5, "166666667/1*00001", noFit},
		{2, 5, "166666666/1*00001", "166666666/1*00001+-666666664/1*00010+999999996/1*00100+-666666664/1*01000+166666666/1*10000"},
		// The sum at 021, or at 010 behind other coordinates.
		{3, 3, "1000000000/1*012+1/1*021", "1000000000/1*012+-999999999/1*021+-1/1*102+-999999999/1*120+-1/1*201+1000000000/1*210"},
		{3, 3, "1000000000/1*012+-1/1*021", noFit}, {3, 3, "1/31607*012+1/31643*021", noFit},
		{2, 3, "1/2*0+1/3*1+500000001/1*001+1/5*011", noFit},
		// Each summand has to fit, even if another one takes it away.
		{2, 5, "300000000/1*00011+-300000000/1*00101", noFit}, {2, 5, "-100000000/1*00011+300000000/1*00101", noFit},
		{2, 5, "250000000/1*00011+-250000000/1*00101", uncrossed},
		// All summands fit, and so would their sum, but at 0210 there are 8, 12 and then 8 times 10^8.
		{3, 4, "400000000/1*0012+-400000000/1*0021+-400000000/1*0102", noFit},
		{3, 4, "400000000/1*0012+400000000/1*0021+400000000/1*0102", "400000000/1*0012+-800000000/1*0120+-800000000/1*0201+" +
			"800000000/1*0210+-400000000/1*1002+800000000/1*1020+400000000/1*2001+-400000000/1*2100"},
	} {
		x, code := impl.SeriesOfCoordinates(c.d, c.n, coordinatesOf(t, c.d, c.n, c.x))
		checkFit(t, "SeriesOfCoordinates "+c.x, x, code, c.d, c.n, c.want)
	}
}

// fitsOrState is a series with the code that LieCoordinates returns for it.
type fitsOrState struct {
	d, n int64
	x    string
	code int64
}

func TestLieCoordinatesMeetErrorsInOrder(t *testing.T) {
	for _, c := range []fitsOrState{
		{1, 1, "1000000000/1*0", impl.ErrNone}, {2, 2, "1000000000/1*01+-1000000000/1*10", impl.ErrNone},
		{2, 3, "500000000/1*001+-1000000000/1*010+500000000/1*100", impl.ErrNone},
		// Twice the first value does not fit, or it does, and what is left is no Lie series.
		{2, 3, "500000001/1*001", impl.ErrLimit}, {2, 3, "-500000001/1*011", impl.ErrLimit}, {2, 3, "500000000/1*001", impl.ErrState},
		{2, 4, "333333334/1*0001", impl.ErrLimit}, {2, 4, "333333333/1*0001", impl.ErrState},
		// What is left does not fit, or it does.
		{2, 2, "1/1*01+1000000000/1*10", impl.ErrLimit}, {2, 2, "-1/1*01+-1000000000/1*10", impl.ErrLimit},
		{2, 2, "1/1*01+999999999/1*10", impl.ErrState}, {2, 2, "1/31607*01+1/31643*10", impl.ErrLimit},
		// Something ahead of what would not fit is no Lie series.
		{2, 3, "1/1*+500000001/1*001", impl.ErrState}, {2, 3, "1/1*00+500000001/1*001", impl.ErrState},
		{2, 3, "1/1*01+500000001/1*001", impl.ErrState}, {2, 3, "1/1*000+500000001/1*001", impl.ErrState},
		{2, 3, "1/1*010+500000001/1*011", impl.ErrState}, {2, 3, "1/1*001+-1/1*010+500000001/1*011+1/1*100", impl.ErrState},
		// Something behind it is none.
		{2, 3, "1/1*01+-1/1*10+500000001/1*001", impl.ErrLimit}, {2, 3, "500000001/1*001+1/1*010", impl.ErrLimit},
		{2, 3, "500000001/1*001+1/1*111", impl.ErrLimit}, {2, 3, "1/1*001+-2/1*010+500000001/1*011+1/1*100", impl.ErrLimit},
		{2, 3, "1/1*001+-2/1*010+500000001/1*011+2/1*100", impl.ErrLimit},
		// Lie series whose coordinates would fit.
		{2, 5, crossed, impl.ErrLimit}, {2, 5, crossedBehind, impl.ErrLimit}, {2, 5, uncrossed, impl.ErrNone},
	} {
		list, code := impl.LieCoordinates(seriesOf(t, c.d, c.n, c.x))
		if code != c.code || (len(list) > 0) != (code == impl.ErrNone) {
			t.Errorf("LieCoordinates of %s = %v, %d, want %d", c.x, list, code, c.code)
		}
	}
}

// The series of these coordinates does not fit on the way, but it would fit, and leads to them.
func TestCoordinatesThatAreFoundOneWayOnly(t *testing.T) {
	const text = "400000000/1*0012+-400000000/1*0021+-400000000/1*0102"
	x := seriesOf(t, 3, 4, "400000000/1*0012+-800000000/1*0021+-800000000/1*0120+800000000/1*0201+800000000/1*0210+"+
		"400000000/1*1002+-800000000/1*1020+800000000/1*1200+-400000000/1*2001+-400000000/1*2100")
	list, code := impl.LieCoordinates(x)
	checkCoordinates(t, "LieCoordinates", list, code, 3, 4, text)
	y, code := impl.SeriesOfCoordinates(3, 4, list)
	checkSeriesError(t, "SeriesOfCoordinates", y, code, impl.ErrLimit)
}

func TestDynkinMapsFitOnTheWay(t *testing.T) {
	for _, c := range []seriesCase{
		{2, 2, "1000000000/1*", "0"}, {2, 2, "1/1000000000*", "0"}, {1, 1, "1000000000/1*0", "1000000000/1*0"},
		{1, 1, "1/1000000000*0", "1/1000000000*0"},
		{2, 2, "1/500000000*01", "1/1000000000*01+-1/1000000000*10"}, {2, 2, "1/500000001*01", noFit},
		// The value is divided also where the left bracket is 0.
		{2, 2, "1/500000000*00", "0"}, {2, 2, "1/500000001*00", noFit}, {2, 3, "1/333333333*001", "0"}, {2, 3, "1/333333334*001", noFit},
		{1, 5, "1/200000000*00000", "0"}, {1, 5, "1/200000001*00000", noFit}, {1, 5, "5/200000001*00000", "0"},
		{2, 2, "1000000000/1*01+-1000000000/1*10", "1000000000/1*01+-1000000000/1*10"},
		{2, 3, "1000000000/1*010", noFit},
		{2, 3, "999999999/1*010", "-333333333/1*001+666666666/1*010+-333333333/1*100"},
		{2, 5, "833333330/1*01000", "-166666666/1*00001+666666664/1*00010+-999999996/1*00100+666666664/1*01000+-166666666/1*10000"},
		{2, 5, "833333335/1*01000", noFit}, {2, 5, "1000000000/1*01000", noFit},
		// At 0101 there are 2 / 31607, then 2 / 31643 beside it, and only the last term takes the first one away.
		{2, 4, "4/31607*0101+4/31643*0110+4/31607*1001", noFit}, {2, 4, "4/31607*0101+4/31643*0110", noFit},
		{2, 4, "4/31607*0101+4/31607*1001+4/31643*1010", "1/31643*0011+-2/31643*0101+2/31643*1010+-1/31643*1100"},
	} {
		x, code := impl.DynkinMap(seriesOf(t, c.d, c.n, c.x))
		checkFit(t, "DynkinMap of "+c.x, x, code, c.d, c.n, c.want)
	}
}

func TestJoinedSeriesFitOnTheWay(t *testing.T) {
	checkPairs(t, "JoinedSeries", impl.JoinedSeries, []pairCase{
		{1, 1, "500000000/1*0", "500000000/1*0", "1000000000/1*0"}, {1, 1, "500000000/1*0", "500000001/1*0", noFit},
		{1, 1, "1000000000/1*0", "-1000000000/1*0", "0"},
		// The square of one of both does not fit, or that of their sum.
		{1, 2, "31622/1*0", "0", "31622/1*0"}, {1, 2, "31623/1*0", "0", noFit}, {1, 2, "0", "31623/1*0", noFit},
		{1, 2, "15811/1*0", "15811/1*0", "31622/1*0"}, {1, 2, "15811/1*0", "15812/1*0", noFit},
		{1, 2, "31622/1*0", "-31622/1*0", "0"}, {1, 2, "31623/1*0", "-31623/1*0", noFit},
		{2, 2, "40000/1*0", "0", noFit}, {2, 2, "30000/1*0", "30000/1*1", "30000/1*0+30000/1*1+450000000/1*01+-450000000/1*10"},
		{2, 2, "30000/1*0", "30000/1*0+-30000/1*1", noFit}, {1, 3, "1/1000*0", "0", noFit},
	})
}

func TestRepeatedBracketsFitOnTheWay(t *testing.T) {
	for _, c := range []struct {
		pairCase
		k int64
	}{
		{pairCase{2, 2, "1000000000/1*0", "1000000000/1*1", "1000000000/1*1"}, 0},
		{pairCase{2, 2, "1000000000/1*0", "1000000000/1*1", noFit}, 1}, {pairCase{2, 1, "1000000000/1*0", "1000000000/1*1", "0"}, 1},
		{pairCase{2, 2, "500000000/1*0", "2/1*1", "1000000000/1*01+-1000000000/1*10"}, 1}, {pairCase{2, 2, "500000001/1*0", "2/1*1", noFit}, 1},
		{pairCase{2, 3, "22360/1*0", "1/1*1", "499969600/1*001+-999939200/1*010+499969600/1*100"}, 2},
		{pairCase{2, 3, "22361/1*0", "1/1*1", noFit}, 2},
		// Behind what does not fit, nothing would be left.
		{pairCase{2, 2, "500000000/1*0", "2/1*1", "0"}, 2}, {pairCase{2, 2, "500000001/1*0", "2/1*1", noFit}, 2},
		{pairCase{2, 3, "22360/1*0", "1/1*1", "0"}, impl.MaxPower}, {pairCase{2, 3, "22361/1*0", "1/1*1", noFit}, impl.MaxPower},
		// Both products are the same, and would take each other away.
		{pairCase{1, 2, "1000000000/1*0", "2/1*0", noFit}, 1}, {pairCase{1, 1, "1000000000/1*", "2/1*", noFit}, 1},
	} {
		z, code := impl.RepeatedBracket(seriesOf(t, c.d, c.n, c.x), seriesOf(t, c.d, c.n, c.y), c.k)
		checkFit(t, "RepeatedBracket of "+c.x+" and "+c.y, z, code, c.d, c.n, c.want)
	}
}

// checkFitting compares a result with coordinates, or with ErrLimit.
func checkFitting(t *testing.T, name string, list []impl.Term, code int64, d int64, n int64, want string) {
	t.Helper()
	if want == noFit {
		checkCoordinatesError(t, name, list, code, impl.ErrLimit)
		return
	}
	checkCoordinates(t, name, list, code, d, n, want)
}

func TestMultipliedCoordinatesFitOnTheWay(t *testing.T) {
	for _, c := range []pairCase{
		{1, 1, "500000000/1*0", "500000000/1*0", "1000000000/1*0"}, {1, 1, "500000000/1*0", "500000001/1*0", noFit},
		{2, 2, "31622/1*0", "0", "31622/1*0"}, {2, 2, "31623/1*0", "0", noFit}, {2, 2, "0", "31623/1*0", noFit},
		{2, 3, "500000000/1*001", "0", "500000000/1*001"}, {2, 3, "500000001/1*001", "0", noFit}, {2, 3, "0", "-500000001/1*011", noFit},
		{2, 2, "31623/1*0", "-31623/1*0", noFit}, {2, 2, "31622/1*0", "-31622/1*0", "0"},
		{2, 2, "30000/1*0", "30000/1*1", "30000/1*0+30000/1*1+450000000/1*01"}, {2, 2, "31623/1*0", "31623/1*1", noFit},
		{3, 3, "1000000000/1*012", "-1/1*021", noFit}, {3, 3, "1000000000/1*012", "1/1*021", "1000000000/1*012+1/1*021"},
		// The series of both fit, but not the joined one, or it does, too.
		{2, 5, "250000000/1*00011", "250000000/1*00101", noFit},
		{2, 5, "250000000/1*00011", "-250000000/1*00101", "250000000/1*00011+-250000000/1*00101"},
	} {
		list, code := impl.MultiplyCoordinates(c.d, c.n, coordinatesOf(t, c.d, c.n, c.x), coordinatesOf(t, c.d, c.n, c.y))
		checkFitting(t, "MultiplyCoordinates "+c.x+" and "+c.y, list, code, c.d, c.n, c.want)
	}
}

func TestSignaturesOfCoordinatesFitOnTheWay(t *testing.T) {
	for _, c := range []seriesCase{
		{1, 1, "1000000000/1*0", "1/1*+1000000000/1*0"}, {1, 2, "31622/1*0", "1/1*+31622/1*0+499975442/1*00"}, {1, 2, "31623/1*0", noFit},
		{2, 3, "500000000/1*001", "1/1*+500000000/1*001+-1000000000/1*010+500000000/1*100"}, {2, 3, "500000001/1*001", noFit},
		{2, 3, "1000000000/1*01", "1/1*+1000000000/1*01+-1000000000/1*10"}, {2, 4, "1000000000/1*01", noFit},
		{2, 4, "31622/1*01", "1/1*+31622/1*01+-31622/1*10+499975442/1*0101+-499975442/1*0110+-499975442/1*1001+499975442/1*1010"},
		{2, 4, "31623/1*01", noFit}, {2, 5, "300000000/1*00011+-300000000/1*00101", noFit}, {1, 3, "1/1000*0", noFit},
	} {
		x, code := impl.SignatureOfCoordinates(c.d, c.n, coordinatesOf(t, c.d, c.n, c.x))
		checkFit(t, "SignatureOfCoordinates "+c.x, x, code, c.d, c.n, c.want)
	}
}

func TestPathCoordinatesFitOnTheWay(t *testing.T) {
	for _, c := range []struct {
		d, n int64
		p    path
		want string
	}{
		{1, 4, path{{100}}, "100/1*0"}, {1, 5, path{{63}}, noFit}, {1, 5, path{{64}}, noFit}, {1, 5, path{{64}, {-64}}, noFit},
		// The signature fits, but not its logarithm on the way, or both do.
		{1, 4, path{{58}, {100}}, noFit}, {1, 4, path{{56}, {100}}, "156/1*0"}, {1, 4, repeated(4, 100), noFit},
		{1, 2, repeated(12, 100), "1200/1*0"}, {3, 1, repeated(12, 100, -100, 100), "1200/1*0+-1200/1*1+1200/1*2"},
		{2, 2, path{{100, 0}, {0, 100}}, "100/1*0+100/1*1+5000/1*01"},
	} {
		list, code := impl.PathCoordinates(c.d, c.n, c.p)
		checkFitting(t, "PathCoordinates", list, code, c.d, c.n, c.want)
	}
}
