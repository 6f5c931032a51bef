package tests

import (
	"strings"
	"testing"

	"loop.example/g01260/impl"
)

// eachShape calls a function for all letters and levels that a series may have.
func eachShape(do func(d int64, n int64)) {
	for d := int64(1); d <= impl.MaxLetter; d++ {
		for n := int64(1); n <= levelsOf(d); n++ {
			do(d, n)
		}
	}
}

// unitOf returns the unit, made without the program.
func unitOf(d int64, n int64) impl.Series {
	return impl.Series{Letters: d, Level: n, Terms: []impl.Term{{Word: "", Value: fr(1, 1)}}}
}

func TestUnitSeries(t *testing.T) {
	if impl.MaxPower != 12 {
		t.Errorf("MaxPower = %d", impl.MaxPower)
	}
	for d := int64(-1); d <= impl.MaxLetter+1; d++ {
		for n := int64(-1); n <= impl.MaxLevel+1; n++ {
			x, code := impl.UnitSeries(d, n)
			if d < 1 || d > 3 || n < 1 || n > levelsOf(d) {
				checkSeriesError(t, "UnitSeries", x, code, impl.ErrRange)
				continue
			}
			checkSeries(t, "UnitSeries", x, code, d, n, "1/1*")
		}
	}
}

// pairCase is a function of two series with its result, all as texts.
type pairCase struct {
	d, n       int64
	x, y, want string
}

func TestMultiplySeries(t *testing.T) {
	for _, c := range []pairCase{
		{2, 2, "0", "0", "0"},
		{2, 2, "0", "1/2*+2/1*0", "0"},
		{2, 2, "1/2*+2/1*0", "0", "0"},
		{2, 2, "1/1*", "1/2*+2/1*0+-1/3*01", "1/2*+2/1*0+-1/3*01"},
		{2, 2, "1/2*+2/1*0+-1/3*01", "1/1*", "1/2*+2/1*0+-1/3*01"},
		{2, 2, "-3/2*", "1/3*", "-1/2*"},
		{2, 2, "1/1*0", "2/1*1", "2/1*01"},
		{2, 2, "2/1*1", "1/1*0", "2/1*10"},
		{2, 1, "1/1*0", "2/1*1", "0"},
		{2, 3, "1/2*0+1/3*1", "1/5*0+1/7*1", "1/10*00+1/14*01+1/15*10+1/21*11"},
		{2, 2, "1/1*+1/1*0", "1/1*+-1/1*0", "1/1*+-1/1*00"},
		{2, 2, "1/1*+1/1*0", "1/1*+-1/1*0+1/1*00", "1/1*"},
		{1, 1, "2/1*+3/1*0", "5/1*+7/1*0", "10/1*+29/1*0"},
		{1, 1, "2/1*+3/1*0", "2/1*+-3/1*0", "4/1*"},
		{1, 2, "1/1*0", "1/1*0", "1/1*00"},
		{1, 2, "1/1*0", "1/1*00", "0"},
		{2, 3, "1/1*01", "1/1*1", "1/1*011"},
		{2, 3, "1/1*01", "1/1*10", "0"},
		{2, 5, "1/1*01", "1/2*011", "1/2*01011"},
		{2, 5, "1/1*010", "1/2*011", "0"},
		{3, 4, "1/2*20", "4/1*12", "2/1*2012"},
		{3, 4, "1/2*20", "4/1*120", "0"},
		{3, 4, "1/1*+1/1*2+1/1*2222", "1/1*+-1/1*2", "1/1*+-1/1*22+1/1*2222"},
		{1, 5, "1/1*+1/1*0+1/1*00+1/1*000+1/1*0000+1/1*00000", "1/1*+-1/1*0", "1/1*"},
	} {
		z, code := impl.MultiplySeries(seriesOf(t, c.d, c.n, c.x), seriesOf(t, c.d, c.n, c.y))
		checkSeries(t, "MultiplySeries "+c.x+" and "+c.y, z, code, c.d, c.n, c.want)
	}
}

func TestProductsOfWordsAreWords(t *testing.T) {
	eachShape(func(d int64, n int64) {
		for _, v := range allWords(d, min(n, 3)) {
			for _, w := range allWords(d, min(n, 3)) {
				x := impl.Series{Letters: d, Level: n, Terms: []impl.Term{{Word: v, Value: fr(-2, 3)}}}
				y := impl.Series{Letters: d, Level: n, Terms: []impl.Term{{Word: w, Value: fr(5, 1)}}}
				want := "0"
				if int64(len(v+w)) <= n {
					want = "-10/3*" + v + w
				}
				z, code := impl.MultiplySeries(x, y)
				checkSeries(t, "MultiplySeries "+v+" and "+w, z, code, d, n, want)
			}
		}
	})
}

func TestPowerSeries(t *testing.T) {
	cases := []struct {
		d, n int64
		x    string
		k    int64
		want string
	}{
		{2, 2, "0", 0, "1/1*"},
		{2, 2, "0", 1, "0"},
		{2, 2, "0", 12, "0"},
		{3, 4, "1/1*+2/1*0", 0, "1/1*"},
		{2, 2, "1/2*+2/1*0+-1/3*01", 1, "1/2*+2/1*0+-1/3*01"},
		{2, 2, "1/1*0", 2, "1/1*00"},
		{2, 2, "1/1*0", 3, "0"},
		{2, 2, "1/1*0+2/1*1", 2, "1/1*00+2/1*01+2/1*10+4/1*11"},
		{1, 5, "-1/2*0", 5, "-1/32*00000"},
		{1, 5, "-1/2*0", 6, "0"},
		{1, 5, "-1/2*0", 12, "0"},
		{1, 5, "1/1*+1/1*0", 3, "1/1*+3/1*0+3/1*00+1/1*000"},
		{1, 5, "1/1*+1/1*0", 12, "1/1*+12/1*0+66/1*00+220/1*000+495/1*0000+792/1*00000"},
		{1, 1, "1/1*+-1/1*0", 12, "1/1*+-12/1*0"},
		{3, 4, "1/1*2", 4, "1/1*2222"},
		{3, 4, "1/1*2", 5, "0"},
		{2, 3, "1/1*1+1/1*01", 2, "1/1*11+1/1*011+1/1*101"},
		{1, 1, "2/1*", 12, "4096/1*"},
		{1, 1, "-1/2*", 11, "-1/2048*"},
	}
	for _, c := range cases {
		z, code := impl.PowerSeries(seriesOf(t, c.d, c.n, c.x), c.k)
		checkSeries(t, "PowerSeries of "+c.x, z, code, c.d, c.n, c.want)
	}
}

// seriesCase is a function of one series with its result, as texts.
type seriesCase struct {
	d, n    int64
	x, want string
}

func TestInverseSeries(t *testing.T) {
	for _, c := range []seriesCase{
		{2, 2, "1/1*", "1/1*"},
		{2, 2, "-1/1*", "-1/1*"},
		{2, 2, "-2/3*", "-3/2*"},
		{2, 2, "1000000000/1*", "1/1000000000*"},
		{2, 2, "-1/1000000000*", "-1000000000/1*"},
		{1, 5, "1/1*+1/1*0", "1/1*+-1/1*0+1/1*00+-1/1*000+1/1*0000+-1/1*00000"},
		{1, 5, "1/1*+-1/1*0", "1/1*+1/1*0+1/1*00+1/1*000+1/1*0000+1/1*00000"},
		{1, 1, "1/1*+1/1*0", "1/1*+-1/1*0"},
		{1, 2, "2/1*+1/1*0", "1/2*+-1/4*0+1/8*00"},
		{1, 2, "-1/2*+1/1*0", "-2/1*+-4/1*0+-8/1*00"},
		{2, 2, "1/1*+1/1*0+1/1*1", "1/1*+-1/1*0+-1/1*1+1/1*00+1/1*01+1/1*10+1/1*11"},
		{2, 2, "1/1*+1/1*0+1/1*00", "1/1*+-1/1*0"},
		{2, 3, "1/1*+1/2*01", "1/1*+-1/2*01"},
		{3, 4, "1/1*+1/1*12", "1/1*+-1/1*12+1/1*1212"},
		{3, 4, "3/1*+1/1*2", "1/3*+-1/9*2+1/27*22+-1/81*222+1/243*2222"},
	} {
		z, code := impl.InverseSeries(seriesOf(t, c.d, c.n, c.x))
		checkSeries(t, "InverseSeries of "+c.x, z, code, c.d, c.n, c.want)
	}
}

func TestExponentialOf(t *testing.T) {
	for _, c := range []seriesCase{
		{2, 2, "0", "1/1*"},
		{1, 2, "1/1*0", "1/1*+1/1*0+1/2*00"},
		{2, 2, "1/1*0", "1/1*+1/1*0+1/2*00"},
		{1, 1, "1/1*0", "1/1*+1/1*0"},
		{1, 5, "1/1*0", "1/1*+1/1*0+1/2*00+1/6*000+1/24*0000+1/120*00000"},
		{1, 5, "-2/1*0", "1/1*+-2/1*0+2/1*00+-4/3*000+2/3*0000+-4/15*00000"},
		{2, 2, "1/1*0+3/1*1", "1/1*+1/1*0+3/1*1+1/2*00+3/2*01+3/2*10+9/2*11"},
		{1, 2, "1/1*0+-1/2*00", "1/1*+1/1*0"},
		{3, 4, "1/1*12", "1/1*+1/1*12+1/2*1212"},
		{3, 4, "2/1*2", "1/1*+2/1*2+2/1*22+4/3*222+2/3*2222"},
		{2, 3, "1/1*01", "1/1*+1/1*01"},
	} {
		z, code := impl.ExponentialOf(seriesOf(t, c.d, c.n, c.x))
		checkSeries(t, "ExponentialOf "+c.x, z, code, c.d, c.n, c.want)
	}
}

func TestLogarithmOf(t *testing.T) {
	for _, c := range []seriesCase{
		{2, 2, "1/1*", "0"},
		{1, 1, "1/1*+1/1*0", "1/1*0"},
		{1, 5, "1/1*+1/1*0", "1/1*0+-1/2*00+1/3*000+-1/4*0000+1/5*00000"},
		{1, 5, "1/1*+-1/1*0", "-1/1*0+-1/2*00+-1/3*000+-1/4*0000+-1/5*00000"},
		{1, 5, "1/1*+1/1*0+1/2*00+1/6*000+1/24*0000+1/120*00000", "1/1*0"},
		{2, 2, "1/1*+1/1*0+3/1*1", "1/1*0+3/1*1+-1/2*00+-3/2*01+-3/2*10+-9/2*11"},
		{2, 2, "1/1*+1/1*0+1/1*1+1/2*00+1/1*01+1/2*11", "1/1*0+1/1*1+1/2*01+-1/2*10"},
		{3, 4, "1/1*+1/1*12", "1/1*12+-1/2*1212"},
		{3, 4, "1/1*+2/1*2", "2/1*2+-2/1*22+8/3*222+-4/1*2222"},
		{2, 3, "1/1*+1/1*01", "1/1*01"},
	} {
		z, code := impl.LogarithmOf(seriesOf(t, c.d, c.n, c.x))
		checkSeries(t, "LogarithmOf "+c.x, z, code, c.d, c.n, c.want)
	}
}

func TestCommutatorOf(t *testing.T) {
	for _, c := range []pairCase{
		{2, 2, "0", "0", "0"},
		{2, 2, "0", "1/1*0", "0"},
		{2, 2, "1/1*0", "2/1*1", "2/1*01+-2/1*10"},
		{2, 2, "2/1*1", "1/1*0", "-2/1*01+2/1*10"},
		{2, 1, "1/1*0", "2/1*1", "0"},
		{2, 3, "1/1*0+1/2*01", "1/1*0+1/2*01", "0"},
		{2, 3, "7/2*", "1/1*0+1/2*01", "0"},
		{2, 3, "1/1*0", "1/1*01+-1/1*10", "1/1*001+-2/1*010+1/1*100"},
		{2, 3, "1/1*+1/1*0", "1/1*+1/1*1", "1/1*01+-1/1*10"},
		{1, 5, "1/1*+3/1*0+1/1*00", "1/2*0+5/1*000", "0"},
		{3, 4, "1/1*22", "1/2*01", "-1/2*0122+1/2*2201"},
		{3, 4, "1/1*22", "1/2*012", "0"},
	} {
		z, code := impl.CommutatorOf(seriesOf(t, c.d, c.n, c.x), seriesOf(t, c.d, c.n, c.y))
		checkSeries(t, "CommutatorOf "+c.x+" and "+c.y, z, code, c.d, c.n, c.want)
	}
}

func TestReversalOf(t *testing.T) {
	for _, c := range []seriesCase{
		{2, 2, "0", "0"},
		{2, 2, "1/2*+1/3*0+1/5*1", "1/2*+1/3*0+1/5*1"},
		{2, 2, "1/1*01", "1/1*10"},
		{2, 2, "1/1*01+-2/3*10", "-2/3*01+1/1*10"},
		{3, 4, "1/2*012+1/3*0012+-7/1*2220", "1/2*210+-7/1*0222+1/3*2100"},
		{3, 4, "1000000000/1*0120", "1000000000/1*0210"},
		{2, 5, "1/1*00101", "1/1*10100"},
	} {
		z, code := impl.ReversalOf(seriesOf(t, c.d, c.n, c.x))
		checkSeries(t, "ReversalOf "+c.x, z, code, c.d, c.n, c.want)
	}
}

func TestAntipodeOf(t *testing.T) {
	for _, c := range []seriesCase{
		{2, 2, "0", "0"},
		{2, 2, "1/2*+1/3*0+1/5*1", "1/2*+-1/3*0+-1/5*1"},
		{2, 2, "1/1*01", "1/1*10"},
		{2, 2, "1/1*01+-2/3*10", "-2/3*01+1/1*10"},
		{3, 4, "1/2*012+1/3*0012+-7/1*2220", "-1/2*210+-7/1*0222+1/3*2100"},
		{3, 4, "1000000000/1*1+-1000000000/1*2", "-1000000000/1*1+1000000000/1*2"},
		{2, 5, "1/1*00101", "-1/1*10100"},
	} {
		z, code := impl.AntipodeOf(seriesOf(t, c.d, c.n, c.x))
		checkSeries(t, "AntipodeOf "+c.x, z, code, c.d, c.n, c.want)
	}
}

func TestReversalsOfEachWord(t *testing.T) {
	eachShape(func(d int64, n int64) {
		for _, w := range allWords(d, n) {
			var turned strings.Builder
			for i := len(w) - 1; i >= 0; i-- {
				turned.WriteByte(w[i])
			}
			x := impl.Series{Letters: d, Level: n, Terms: []impl.Term{{Word: w, Value: fr(2, 3)}}}
			z, code := impl.ReversalOf(x)
			checkSeries(t, "ReversalOf "+w, z, code, d, n, "2/3*"+turned.String())
			sign := ""
			if len(w)%2 == 1 {
				sign = "-"
			}
			z, code = impl.AntipodeOf(x)
			checkSeries(t, "AntipodeOf "+w, z, code, d, n, sign+"2/3*"+turned.String())
		}
	})
}

func TestTruncateSeries(t *testing.T) {
	eachShape(func(d int64, n int64) {
		for step := 1; step <= 3; step++ {
			x := mixedSeries(d, n, step, 4)
			for level := int64(1); level <= n; level++ {
				want := impl.Series{Letters: d, Level: level}
				for _, term := range x.Terms {
					if int64(len(term.Word)) <= level {
						want.Terms = append(want.Terms, term)
					}
				}
				z, code := impl.TruncateSeries(x, level)
				if code != impl.ErrNone || !sameSeries(z, want) {
					t.Errorf("TruncateSeries(%v, %d) = %v, %d", x, level, z, code)
				}
			}
		}
	})
	z, code := impl.TruncateSeries(seriesOf(t, 2, 5, "1/1*+1/1*0+1/2*00+1/3*00000"), 1)
	checkSeries(t, "TruncateSeries", z, code, 2, 1, "1/1*+1/1*0")
	z, code = impl.TruncateSeries(seriesOf(t, 3, 4, "1/1*0000"), 3)
	checkSeries(t, "TruncateSeries", z, code, 3, 3, "0")
	z, code = impl.TruncateSeries(seriesOf(t, 3, 4, "1/1*0000"), 4)
	checkSeries(t, "TruncateSeries", z, code, 3, 4, "1/1*0000")
	z, code = impl.TruncateSeries(impl.Series{Letters: 2, Level: 5}, 2)
	checkSeries(t, "TruncateSeries", z, code, 2, 2, "0")
}

func TestConstantOf(t *testing.T) {
	cases := []struct {
		d, n int64
		x    string
		want impl.Fraction
	}{
		{2, 2, "0", zero},
		{2, 2, "1/1*0", zero},
		{2, 2, "1/1*", fr(1, 1)},
		{2, 5, "-3/7*+1/1*0", fr(-3, 7)},
		{3, 4, "1000000000/1*+1/1*2222", fr(impl.MaxPart, 1)},
		{1, 1, "-1/1000000000*", fr(-1, impl.MaxPart)},
	}
	for _, c := range cases {
		a, code := impl.ConstantOf(seriesOf(t, c.d, c.n, c.x))
		checkFraction(t, "ConstantOf "+c.x, a, code, c.want, impl.ErrNone)
	}
}
