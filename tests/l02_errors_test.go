package tests

import (
	"math"
	"testing"

	"loop.example/g01260/impl"
)

// badPowers are numbers out of the range of PowerSeries.
var badPowers = []int64{math.MinInt64, -12, -1, impl.MaxPower + 1, math.MaxInt64}

// badLevels are numbers out of the range of all levels.
var badLevels = []int64{math.MinInt64, -1, 0, impl.MaxLevel + 1, math.MaxInt64}

func TestUnitSeriesErrors(t *testing.T) {
	for _, d := range badLetters() {
		for _, n := range append([]int64{1, 2, 4, 5}, badLevels...) {
			x, code := impl.UnitSeries(d, n)
			checkSeriesError(t, "UnitSeries", x, code, impl.ErrRange)
		}
	}
	for d := int64(1); d <= impl.MaxLetter; d++ {
		for _, n := range badLevels {
			x, code := impl.UnitSeries(d, n)
			checkSeriesError(t, "UnitSeries", x, code, impl.ErrRange)
		}
	}
	x, code := impl.UnitSeries(3, 5)
	checkSeriesError(t, "UnitSeries", x, code, impl.ErrRange)
}

// pairFunctions are those of two series that are alike.
var pairFunctions = map[string]func(x impl.Series, y impl.Series) (impl.Series, int64){
	"MultiplySeries": impl.MultiplySeries,
	"CommutatorOf":   impl.CommutatorOf,
}

// unlikePairs are series that are not alike. The products of most would not fit.
func unlikePairs(t *testing.T) [][2]impl.Series {
	const values = "1000000000/1*+1000000000/1*0"
	large := seriesOf(t, 2, 2, values)
	var pairs [][2]impl.Series
	for _, other := range []impl.Series{
		seriesOf(t, 1, 2, values), seriesOf(t, 3, 2, values), seriesOf(t, 2, 1, values), seriesOf(t, 2, 3, values),
		seriesOf(t, 3, 3, "0"), seriesOf(t, 2, 5, "0"),
	} {
		pairs = append(pairs, [2]impl.Series{large, other}, [2]impl.Series{other, large})
	}
	return pairs
}

// checkPairErrors calls a function of two series that are alike with what it refuses.
func checkPairErrors(t *testing.T, name string, do func(x impl.Series, y impl.Series) (impl.Series, int64)) {
	t.Helper()
	large := seriesOf(t, 2, 2, "1000000000/1*+1000000000/1*0")
	for what, bad := range notSeries() {
		for _, other := range []impl.Series{large, seriesOf(t, 1, 5, "0"), {}, bad} {
			z, code := do(bad, other)
			checkSeriesError(t, name+", first, "+what, z, code, impl.ErrInvalid)
			z, code = do(other, bad)
			checkSeriesError(t, name+", second, "+what, z, code, impl.ErrInvalid)
		}
	}
	// Series that are not alike are refused ahead of values that do not fit.
	for _, pair := range unlikePairs(t) {
		z, code := do(pair[0], pair[1])
		checkSeriesError(t, name, z, code, impl.ErrRange)
	}
	z, code := do(large, large)
	checkSeriesError(t, name, z, code, impl.ErrLimit)
}

func TestPairErrors(t *testing.T) {
	for name, do := range pairFunctions {
		checkPairErrors(t, name, do)
	}
}

func TestPowerSeriesErrors(t *testing.T) {
	for what, bad := range notSeries() {
		for _, k := range append([]int64{0, 1, 12}, badPowers...) {
			z, code := impl.PowerSeries(bad, k)
			checkSeriesError(t, "PowerSeries, "+what, z, code, impl.ErrInvalid)
		}
	}
	for _, text := range []string{"0", "1/1*", "1/2*0", "1000000000/1*"} {
		for _, k := range badPowers {
			z, code := impl.PowerSeries(seriesOf(t, 2, 2, text), k)
			checkSeriesError(t, "PowerSeries of "+text, z, code, impl.ErrRange)
		}
	}
	z, code := impl.PowerSeries(seriesOf(t, 2, 2, "1000000000/1*"), 12)
	checkSeriesError(t, "PowerSeries", z, code, impl.ErrLimit)
}

// singleFunctions are those of one series alone.
var singleFunctions = map[string]func(x impl.Series) (impl.Series, int64){
	"InverseSeries": impl.InverseSeries,
	"ExponentialOf": impl.ExponentialOf,
	"LogarithmOf":   impl.LogarithmOf,
	"ReversalOf":    impl.ReversalOf,
	"AntipodeOf":    impl.AntipodeOf,
}

func TestSingleErrors(t *testing.T) {
	for name, do := range singleFunctions {
		for what, bad := range notSeries() {
			z, code := do(bad)
			checkSeriesError(t, name+", "+what, z, code, impl.ErrInvalid)
			// ErrInvalid comes ahead of ErrState, which this constant would be for two of them.
			bad.Terms = append([]impl.Term{{Word: "", Value: fr(2, 1)}, {Word: "", Value: fr(2, 1)}}, bad.Terms...)
			z, code = do(bad)
			checkSeriesError(t, name+", "+what, z, code, impl.ErrInvalid)
		}
	}
}

func TestConstantsThatAreRefused(t *testing.T) {
	// The values beside the constant would not fit, which is told behind ErrState.
	const rest = "1000000000/1*0+1000000000/1*1+1000000000/1*00"
	cases := []struct {
		name     string
		constant []string
	}{
		{"InverseSeries", []string{"0/1"}},
		{"ExponentialOf", []string{"1/1", "-1/1", "2/1", "1/1000000000", "-1000000000/1"}},
		{"LogarithmOf", []string{"0/1", "-1/1", "2/1", "1/2", "999999999/1000000000", "1000000000/999999999"}},
	}
	for _, c := range cases {
		for _, text := range c.constant {
			constant, _ := impl.ParseFraction(text)
			for _, others := range []string{"0", "1/2*0", rest} {
				x := withConstant(t, seriesOf(t, 2, 2, others), constant)
				z, code := singleFunctions[c.name](x)
				checkSeriesError(t, c.name+" with the constant "+text, z, code, impl.ErrState)
			}
		}
	}
	for name, constant := range map[string]impl.Fraction{
		"InverseSeries": fr(1, 1), "ExponentialOf": zero, "LogarithmOf": fr(1, 1),
	} {
		z, code := singleFunctions[name](withConstant(t, seriesOf(t, 2, 2, rest), constant))
		checkSeriesError(t, name, z, code, impl.ErrLimit)
	}
}

func TestTruncateSeriesErrors(t *testing.T) {
	for what, bad := range notSeries() {
		for _, level := range append([]int64{1, 2}, badLevels...) {
			z, code := impl.TruncateSeries(bad, level)
			checkSeriesError(t, "TruncateSeries, "+what, z, code, impl.ErrInvalid)
		}
	}
	eachShape(func(d int64, n int64) {
		for _, x := range []impl.Series{{Letters: d, Level: n}, mixedSeries(d, n, 3, 4)} {
			for _, level := range append([]int64{n + 1}, badLevels...) {
				z, code := impl.TruncateSeries(x, level)
				checkSeriesError(t, "TruncateSeries", z, code, impl.ErrRange)
			}
		}
	})
}

func TestConstantOfErrors(t *testing.T) {
	for what, bad := range notSeries() {
		a, code := impl.ConstantOf(bad)
		checkFraction(t, "ConstantOf, "+what, a, code, impl.Fraction{}, impl.ErrInvalid)
	}
}
