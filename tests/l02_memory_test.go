package tests

import (
	"slices"
	"testing"

	"loop.example/g01260/impl"
)

// productFunctions are the functions of chapter 2 that take series.
func productFunctions() []seriesFunction {
	type series = impl.Series
	list := []seriesFunction{
		{"ConstantOf", func(x series, y series) series { impl.ConstantOf(x); return series{} }},
	}
	for name, do := range pairFunctions {
		list = append(list,
			seriesFunction{name, func(x series, y series) series { z, _ := do(x, y); return z }},
			seriesFunction{name + " with itself", func(x series, y series) series { z, _ := do(x, x); return z }})
	}
	for name, do := range singleFunctions {
		list = append(list, seriesFunction{name, func(x series, y series) series { z, _ := do(x); return z }})
	}
	for _, k := range []int64{-1, 0, 1, 2, 3, impl.MaxPower, impl.MaxPower + 1} {
		list = append(list, seriesFunction{"PowerSeries", func(x series, y series) series {
			z, _ := impl.PowerSeries(x, k)
			return z
		}})
	}
	for level := int64(0); level <= 6; level++ {
		list = append(list, seriesFunction{"TruncateSeries", func(x series, y series) series {
			z, _ := impl.TruncateSeries(x, level)
			return z
		}})
	}
	return list
}

// productPairs are series with the constants 0, 1 and 2, and some whose products do not fit.
func productPairs(t *testing.T) [][2]impl.Series {
	var pairs [][2]impl.Series
	for _, constant := range []impl.Fraction{zero, fr(1, 1), fr(2, 1)} {
		unit := withConstant(t, impl.Series{Letters: 2, Level: 3}, constant)
		small := withConstant(t, mixedSeries(2, 3, 3, 4), constant)
		pairs = append(pairs, [2]impl.Series{unit, small}, [2]impl.Series{small, unit}, [2]impl.Series{small, small},
			[2]impl.Series{withConstant(t, mixedSeries(3, 3, 2, 4), constant), mixedSeries(3, 3, 3, 7)},
			[2]impl.Series{withConstant(t, seriesOf(t, 1, 5, "1/2*0+3/1*00"), constant), mixedSeries(1, 5, 2, 4)},
			[2]impl.Series{withConstant(t, seriesOf(t, 2, 3, "1000000000/1*0+1/1*01"), constant), seriesOf(t, 2, 3, "7/1*1")})
	}
	return pairs
}

func TestProductsAreNeitherWrittenNorShared(t *testing.T) {
	checkMemory(t, productFunctions(), productPairs(t))
}

// checkCallsBefore calls functions with pairs of series again, after their results are changed.
func checkCallsBefore(t *testing.T, functions []seriesFunction, pairs [][2]impl.Series) {
	t.Helper()
	for _, pair := range pairs {
		for _, f := range functions {
			x, y := pair[0], pair[1]
			first := f.call(x, y)
			want := slices.Clone(first.Terms)
			for i := range first.Terms {
				first.Terms[i] = spareTerm
			}
			second := f.call(x, y)
			if !slices.Equal(second.Terms, want) || shareMemory(first.Terms, second.Terms) {
				t.Errorf("%s of %v and %v = %v, and then %v", f.name, x, y, want, second)
			}
		}
	}
}

func TestProductsDoNotDependOnCallsBefore(t *testing.T) {
	checkCallsBefore(t, productFunctions(), productPairs(t))
	first, _ := impl.UnitSeries(2, 2)
	first.Terms[0] = spareTerm
	second, code := impl.UnitSeries(2, 2)
	checkSeries(t, "UnitSeries", second, code, 2, 2, "1/1*")
}
