package tests

import (
	"math/rand/v2"
	"testing"

	"loop.example/g01260/impl"
)

func TestShufflesDoNotDependOnTheOrder(t *testing.T) {
	held := 0
	promiseSamples(func(x impl.Series, y impl.Series, z impl.Series) {
		var c calls
		c.checkEqual(t, "x y and y x", c.of(impl.ShuffleSeries(x, y)), c.of(impl.ShuffleSeries(y, x)))
		left := c.of(impl.ShuffleSeries(c.of(impl.ShuffleSeries(x, y)), z))
		right := c.of(impl.ShuffleSeries(x, c.of(impl.ShuffleSeries(y, z))))
		if c.checkEqual(t, "(x y) z and x (y z)", left, right) {
			held++
		}
	})
	checkHeld(t, held)
}

// productOfConstants returns the product of both constants as a series.
func productOfConstants(x impl.Series, y impl.Series) (impl.Series, int64) {
	a, _ := impl.ConstantOf(x)
	b, _ := impl.ConstantOf(y)
	product, code := impl.MultiplyFractions(a, b)
	if code != impl.ErrNone {
		return impl.Series{}, code
	}
	return impl.ScaleSeries(unitOf(x.Letters, x.Level), product)
}

func TestHalfShufflesAddUpToShuffles(t *testing.T) {
	held := 0
	promiseSamples(func(x impl.Series, y impl.Series, z impl.Series) {
		for _, constant := range []impl.Fraction{zero, fr(-2, 1)} {
			x := withConstant(t, x, constant)
			var c calls
			halves := c.of(impl.AddSeries(c.of(impl.HalfShuffle(x, y)), c.of(impl.HalfShuffle(y, x))))
			// The empty words of both are in no half.
			sum := c.of(impl.AddSeries(halves, c.of(productOfConstants(x, y))))
			if c.checkEqual(t, "halves and the whole", sum, c.of(impl.ShuffleSeries(x, y))) {
				held++
			}
		}
	})
	checkHeld(t, held)
}

func TestHalfShufflesOfHalfShuffles(t *testing.T) {
	held := 0
	promiseSamples(func(x impl.Series, y impl.Series, z impl.Series) {
		var c calls
		left := c.of(impl.HalfShuffle(c.of(impl.HalfShuffle(x, y)), z))
		right := c.of(impl.HalfShuffle(x, c.of(impl.ShuffleSeries(y, z))))
		if c.checkEqual(t, "halves of halves", left, right) {
			held++
		}
	})
	checkHeld(t, held)
}

func TestShufflesGoWithSumsAndTheUnit(t *testing.T) {
	held := 0
	promiseSamples(func(x impl.Series, y impl.Series, z impl.Series) {
		var c calls
		unit := unitOf(x.Letters, x.Level)
		c.checkEqual(t, "x and the unit", c.of(impl.ShuffleSeries(x, unit)), x)
		c.checkEqual(t, "the unit and x", c.of(impl.ShuffleSeries(unit, x)), x)
		left := c.of(impl.ShuffleSeries(x, c.of(impl.AddSeries(y, z))))
		right := c.of(impl.AddSeries(c.of(impl.ShuffleSeries(x, y)), c.of(impl.ShuffleSeries(x, z))))
		if c.checkEqual(t, "x (y + z) and x y + x z", left, right) {
			held++
		}
	})
	checkHeld(t, held)
}

func TestShufflePowersAreShuffles(t *testing.T) {
	held := 0
	promiseSamples(func(x impl.Series, y impl.Series, z impl.Series) {
		var c calls
		power := unitOf(z.Letters, z.Level)
		for k := int64(0); k <= 5; k++ {
			c.checkEqual(t, "powers", c.of(impl.ShufflePower(z, k)), power)
			power = c.of(impl.ShuffleSeries(power, z))
		}
		left := c.of(impl.ShuffleSeries(c.of(impl.ShufflePower(z, 2)), c.of(impl.ShufflePower(z, 3))))
		if c.checkEqual(t, "the powers 2 and 3, and 5", left, c.of(impl.ShufflePower(z, 5))) {
			held++
		}
	})
	checkHeld(t, held)
}

func TestPairingsDoNotDependOnTheOrder(t *testing.T) {
	r := rand.New(rand.NewPCG(3, 6))
	fit, limit := 0, 0
	eachSample(r, func(samples []impl.Series) {
		samples = append(samples, sparseSeries(r, samples[0].Letters, samples[0].Level, 1, smallSize, 1))
		for _, x := range samples {
			for _, y := range samples {
				a, code := impl.PairSeries(x, y)
				b, other := impl.PairSeries(y, x)
				checkFraction(t, "PairSeries in the other order", b, other, a, code)
				if code == impl.ErrNone {
					fit++
				} else {
					limit++
				}
			}
		}
	})
	if fit < 100 || limit < 100 {
		t.Errorf("%d pairings fit, and %d do not", fit, limit)
	}
}

func TestValuesAtShufflesArePairings(t *testing.T) {
	r := rand.New(rand.NewPCG(3, 7))
	fit, limit := 0, 0
	eachShape(func(d int64, n int64) {
		for _, x := range append(modelSamples(r, d, n), sparseSeries(r, d, n, 1, flatSize, 1)) {
			for _, v := range allWords(d, n) {
				for _, w := range allWords(d, n-int64(len(v))) {
					shuffle, _ := impl.ShuffleWords(d, n, v, w)
					a, code := impl.ValueAtShuffle(x, v, w)
					b, other := impl.PairSeries(x, shuffle)
					checkFraction(t, "PairSeries with the shuffle of "+v+" and "+w, b, other, a, code)
					b, other = impl.PairSeries(shuffle, x)
					checkFraction(t, "PairSeries of the shuffle of "+v+" and "+w, b, other, a, code)
					if code == impl.ErrNone {
						fit++
					} else {
						limit++
					}
				}
			}
		}
	})
	if fit < 1000 || limit < 100 {
		t.Errorf("%d values fit, and %d do not", fit, limit)
	}
}

func TestValuesOfProductsGoAlongCuts(t *testing.T) {
	held := 0
	promiseSamples(func(x impl.Series, y impl.Series, z impl.Series) {
		product, code := impl.MultiplySeries(x, y)
		if code != impl.ErrNone {
			return
		}
		for _, w := range allWords(x.Letters, x.Level) {
			cuts, _ := impl.CutsOfWord(x.Letters, w)
			sum := zero
			for _, cut := range cuts {
				a, _ := impl.CoefficientOf(x, cut[0])
				b, _ := impl.CoefficientOf(y, cut[1])
				summand, _ := impl.MultiplyFractions(a, b)
				sum, _ = impl.AddFractions(sum, summand)
			}
			a, code := impl.CoefficientOf(product, w)
			checkFraction(t, "the value of a product at "+w, a, code, sum, impl.ErrNone)
		}
		held++
	})
	checkHeld(t, held)
}

// bracketSeries returns a sum of letters and their commutators, made of small numbers.
func bracketSeries(c *calls, r *rand.Rand, d int64, n int64) impl.Series {
	sum := impl.Series{Letters: d, Level: n}
	bracket := c.of(impl.LetterSeries(d, n, r.Int64N(d)))
	for range n + 2 {
		scaled := c.of(impl.ScaleSeries(bracket, fr(r.Int64N(5)-2, 1)))
		sum = c.of(impl.AddSeries(sum, scaled))
		letter := c.of(impl.LetterSeries(d, n, r.Int64N(d)))
		if r.IntN(3) == 0 {
			bracket = letter
			continue
		}
		bracket = c.of(impl.CommutatorOf(bracket, letter))
	}
	return sum
}

// checkTells requires that a series is told to be one of its kind.
func checkTells(t *testing.T, name string, do func(x impl.Series) (bool, int64), x impl.Series) {
	t.Helper()
	if is, code := do(x); !is || code != impl.ErrNone {
		t.Errorf("%s: %v, %d for %v", name, is, code, x)
	}
}

func TestExponentialsOfLieSeriesAreGroupLike(t *testing.T) {
	r := rand.New(rand.NewPCG(3, 8))
	held := 0
	eachShape(func(d int64, n int64) {
		for range 8 {
			var c calls
			x, y := bracketSeries(&c, r, d, n), bracketSeries(&c, r, d, n)
			g, h := c.of(impl.ExponentialOf(x)), c.of(impl.ExponentialOf(y))
			product := c.of(impl.MultiplySeries(g, h))
			log := c.of(impl.LogarithmOf(product))
			if c.code != impl.ErrNone {
				continue
			}
			held++
			checkTells(t, "a sum of commutators", impl.IsLieSeries, x)
			checkTells(t, "a commutator", impl.IsLieSeries, c.of(impl.CommutatorOf(x, y)))
			checkTells(t, "the logarithm of a product", impl.IsLieSeries, log)
			checkTells(t, "an exponential", impl.IsGroupLike, g)
			checkTells(t, "a product of exponentials", impl.IsGroupLike, product)
			checkTells(t, "an antipode", impl.IsGroupLike, c.of(impl.AntipodeOf(g)))
			checkTells(t, "an inverse", impl.IsGroupLike, c.of(impl.InverseSeries(g)))
			c.checkEqual(t, "antipode and inverse", c.of(impl.AntipodeOf(g)), c.of(impl.InverseSeries(g)))
		}
	})
	checkHeld(t, held)
}

func TestGroupLikeSeriesPairWithShufflesAsProducts(t *testing.T) {
	r := rand.New(rand.NewPCG(3, 9))
	held := 0
	eachShape(func(d int64, n int64) {
		for range 20 {
			var c calls
			g := c.of(impl.ExponentialOf(bracketSeries(&c, r, d, n)))
			// The words of both factors must not be too long together.
			x, _ := impl.TruncateSeries(sparseSeries(r, d, n, 2, smallSize, 1), max(n/2, 1))
			y := sparseSeries(r, d, n, 2, smallSize, 1)
			if n > 1 {
				y, _ = impl.TruncateSeries(y, n-max(n/2, 1))
			} else {
				y = unitOf(d, n)
			}
			x.Level, y.Level = n, n
			shuffle := c.of(impl.ShuffleSeries(x, y))
			a, codeA := impl.PairSeries(g, x)
			b, codeB := impl.PairSeries(g, y)
			got, code := impl.PairSeries(g, shuffle)
			want, wantCode := impl.MultiplyFractions(a, b)
			if max(c.code, codeA, codeB, code, wantCode) == impl.ErrNone {
				checkFraction(t, "the pairing with a shuffle", got, code, want, impl.ErrNone)
				held++
			}
		}
	})
	checkHeld(t, held)
}
