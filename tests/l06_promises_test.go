package tests

import (
	"math/rand/v2"
	"slices"
	"testing"

	"loop.example/g01260/impl"
)

// ofTerms returns coordinates that a function has returned, and keeps its error.
func (c *calls) ofTerms(list []impl.Term, code int64) []impl.Term {
	if c.code == impl.ErrNone {
		c.code = code
	}
	return list
}

// checkSame compares two ways to coordinates, if all fractions on them fit. It reports whether they do.
func (c *calls) checkSame(t *testing.T, name string, a []impl.Term, b []impl.Term) bool {
	t.Helper()
	if c.code != impl.ErrNone {
		if c.code != impl.ErrLimit {
			t.Errorf("%s: code %d", name, c.code)
		}
		return false
	}
	if !slices.Equal(a, b) {
		t.Errorf("%s: %v, and %v", name, a, b)
	}
	return true
}

// smallCoordinates returns coordinates at about one word out of step.
func smallCoordinates(r *rand.Rand, d int64, n int64, step int) []impl.Term {
	return lyndonTerms(sparseSeries(r, d, n, step, smallSize, 2))
}

// eachPromiseSample calls a function for three lists of coordinates of each shape.
func eachPromiseSample(seed uint64, do func(d int64, n int64, a []impl.Term, b []impl.Term, c []impl.Term)) {
	r := rand.New(rand.NewPCG(6, seed))
	eachShape(func(d int64, n int64) {
		for range 8 {
			do(d, n, smallCoordinates(r, d, n, 2), smallCoordinates(r, d, n, 3), smallCoordinates(r, d, n, 4))
			do(d, n, smallCoordinates(r, d, n, 1), nil, smallCoordinates(r, d, n, 6))
		}
	})
}

func TestCoordinatesLeadBackToLieSeries(t *testing.T) {
	held := 0
	eachPromiseSample(20, func(d int64, n int64, a []impl.Term, b []impl.Term, _ []impl.Term) {
		for _, list := range [][]impl.Term{a, b} {
			var c calls
			x := c.of(impl.SeriesOfCoordinates(d, n, list))
			back := c.ofTerms(impl.LieCoordinates(x))
			c.checkSame(t, "the coordinates of the series of coordinates", back, list)
			if c.checkEqual(t, "the series of the coordinates of a series", c.of(impl.SeriesOfCoordinates(d, n, back)), x) {
				held++
			}
		}
	})
	checkHeld(t, held)
}

// Series that are made of commutators alone, and not of coordinates, have some, too.
func TestSumsOfCommutatorsHaveCoordinates(t *testing.T) {
	r := rand.New(rand.NewPCG(6, 21))
	held := 0
	eachShape(func(d int64, n int64) {
		for range 8 {
			var c calls
			x, y := bracketSeries(&c, r, d, n), bracketSeries(&c, r, d, n)
			for _, z := range []impl.Series{x, c.of(impl.CommutatorOf(x, y)), c.of(impl.RepeatedBracket(x, y, 2)), c.of(impl.JoinedSeries(x, y))} {
				back := c.of(impl.SeriesOfCoordinates(d, n, c.ofTerms(impl.LieCoordinates(z))))
				c.checkEqual(t, "the series of coordinates", back, z)
				if c.checkEqual(t, "the Dynkin map", c.of(impl.DynkinMap(z)), z) {
					held++
				}
			}
		}
	})
	checkHeld(t, held)
}

func TestDynkinMapsLeaveLieSeries(t *testing.T) {
	held := 0
	eachPromiseSample(22, func(d int64, n int64, a []impl.Term, b []impl.Term, _ []impl.Term) {
		for _, list := range [][]impl.Term{a, b} {
			var c calls
			x := c.of(impl.SeriesOfCoordinates(d, n, list))
			if c.checkEqual(t, "the Dynkin map of a Lie series", c.of(impl.DynkinMap(x)), x) {
				held++
			}
		}
	})
	checkHeld(t, held)
}

// The Dynkin map makes Lie series of all series, and of constants nothing.
func TestDynkinMapsAreLieSeries(t *testing.T) {
	held := 0
	promiseSamples(func(x impl.Series, y impl.Series, z impl.Series) {
		var c calls
		lie := c.of(impl.DynkinMap(x))
		c.checkEqual(t, "the Dynkin map of the series of coordinates",
			c.of(impl.SeriesOfCoordinates(x.Letters, x.Level, c.ofTerms(impl.LieCoordinates(lie)))), lie)
		c.checkEqual(t, "the Dynkin map twice", c.of(impl.DynkinMap(lie)), lie)
		if c.checkEqual(t, "the Dynkin map with another constant", c.of(impl.DynkinMap(withConstant(t, x, fr(-7, 3)))), lie) {
			held++
		}
		left := c.of(impl.DynkinMap(c.of(impl.AddSeries(x, y))))
		c.checkEqual(t, "the Dynkin map of a sum", left, c.of(impl.AddSeries(lie, c.of(impl.DynkinMap(y)))))
	})
	checkHeld(t, held)
}

// Lie series by coordinates are those by shuffles.
func TestSeriesWithCoordinatesAreLieSeriesByShuffles(t *testing.T) {
	r := rand.New(rand.NewPCG(6, 23))
	yes, no := 0, 0
	eachShape(func(d int64, n int64) {
		for range 10 {
			for _, x := range append(nearLieSeries(r, d, n, smallCoordinates(r, d, n, 2)), sparseSeries(r, d, n, 3, smallSize, 1)) {
				_, code := impl.LieCoordinates(x)
				lie, other := impl.IsLieSeries(x)
				if code == impl.ErrLimit || other == impl.ErrLimit {
					continue
				}
				if lie != (code == impl.ErrNone) || other != impl.ErrNone {
					t.Errorf("IsLieSeries of %v: %v, %d, but LieCoordinates: %d", x, lie, other, code)
				}
				if lie {
					yes++
				} else {
					no++
				}
			}
		}
	})
	checkHeld(t, yes)
	checkHeld(t, no)
}

func TestCoordinatesOfPathsLeadToSignatures(t *testing.T) {
	held := 0
	eachPromisePath(24, func(d int64, n int64, a path, b path) {
		for _, p := range []path{a, b} {
			var c calls
			x := c.of(impl.SignatureOf(d, n, p))
			list := c.ofTerms(impl.PathCoordinates(d, n, p))
			back := c.of(impl.SignatureOfCoordinates(d, n, list))
			c.checkEqual(t, "the signature of coordinates", back, x)
			log := c.of(impl.LogSignature(d, n, p))
			c.checkEqual(t, "the Dynkin map of the logarithm", c.of(impl.DynkinMap(log)), log)
			if c.checkEqual(t, "the series of coordinates", c.of(impl.SeriesOfCoordinates(d, n, list)), log) {
				held++
			}
		}
	})
	checkHeld(t, held)
}

func TestCoordinatesOfJoinedPathsAreProducts(t *testing.T) {
	held := 0
	eachPromisePath(25, func(d int64, n int64, a path, b path) {
		var c calls
		joined := c.ofTerms(impl.PathCoordinates(d, n, c.ofPath(impl.JoinPaths(d, a, b))))
		first, second := c.ofTerms(impl.PathCoordinates(d, n, a)), c.ofTerms(impl.PathCoordinates(d, n, b))
		if c.checkSame(t, "the joined path", joined, c.ofTerms(impl.MultiplyCoordinates(d, n, first, second))) {
			held++
		}
	})
	checkHeld(t, held)
}

func TestCoordinatesOfReversedPathsAreInverses(t *testing.T) {
	held := 0
	eachPromisePath(26, func(d int64, n int64, a path, b path) {
		for _, p := range []path{a, b} {
			var c calls
			reversed := c.ofTerms(impl.PathCoordinates(d, n, c.ofPath(impl.ReversePath(d, p))))
			list := c.ofTerms(impl.PathCoordinates(d, n, p))
			if c.checkSame(t, "the reversed path", reversed, c.ofTerms(impl.InverseCoordinates(d, n, list))) {
				held++
			}
		}
	})
	checkHeld(t, held)
}

func TestProductsOfCoordinatesAreAssociative(t *testing.T) {
	held := 0
	eachPromiseSample(27, func(d int64, n int64, x []impl.Term, y []impl.Term, z []impl.Term) {
		var c calls
		times := func(a []impl.Term, b []impl.Term) []impl.Term { return c.ofTerms(impl.MultiplyCoordinates(d, n, a, b)) }
		if c.checkSame(t, "(x y) z and x (y z)", times(times(x, y), z), times(x, times(y, z))) {
			held++
		}
	})
	checkHeld(t, held)
}

func TestInverseCoordinatesAreInverses(t *testing.T) {
	held := 0
	eachPromiseSample(28, func(d int64, n int64, a []impl.Term, b []impl.Term, _ []impl.Term) {
		var c calls
		times := func(a []impl.Term, b []impl.Term) []impl.Term { return c.ofTerms(impl.MultiplyCoordinates(d, n, a, b)) }
		inverse := func(a []impl.Term) []impl.Term { return c.ofTerms(impl.InverseCoordinates(d, n, a)) }
		c.checkSame(t, "the inverse of the inverse", inverse(inverse(a)), a)
		c.checkSame(t, "a and its inverse", times(a, inverse(a)), nil)
		c.checkSame(t, "a and nothing", times(a, nil), a)
		c.checkSame(t, "nothing and a", times(nil, a), a)
		if c.checkSame(t, "the inverse of a product", inverse(times(a, b)), times(inverse(b), inverse(a))) {
			held++
		}
	})
	checkHeld(t, held)
}

func TestProductsOfCoordinatesAreProductsOfSignatures(t *testing.T) {
	held := 0
	eachPromiseSample(29, func(d int64, n int64, a []impl.Term, b []impl.Term, _ []impl.Term) {
		var c calls
		x, y := c.of(impl.SignatureOfCoordinates(d, n, a)), c.of(impl.SignatureOfCoordinates(d, n, b))
		product := c.of(impl.SignatureOfCoordinates(d, n, c.ofTerms(impl.MultiplyCoordinates(d, n, a, b))))
		if c.checkEqual(t, "the signature of a product", product, c.of(impl.MultiplySeries(x, y))) {
			held++
		}
	})
	checkHeld(t, held)
}

// The dual series of a Lyndon word pairs to 1 with its bracket, and to 0 with other brackets.
func TestDualSeriesOfLyndonWordsPairWithTheirBrackets(t *testing.T) {
	eachShape(func(d int64, n int64) {
		words := lyndonInOrder(d, n)
		for _, v := range words {
			for _, w := range words {
				var c calls
				a, code := impl.PairSeries(c.of(impl.DualSeries(d, n, v)), c.of(impl.BracketOf(d, n, w)))
				want := zero
				if v == w {
					want = fr(1, 1)
				}
				checkFraction(t, "the dual series of "+v+" with the bracket of "+w, a, max(code, c.code), want, impl.ErrNone)
			}
		}
	})
}

func TestDualSeriesReadCoordinates(t *testing.T) {
	held := 0
	eachPromiseSample(30, func(d int64, n int64, a []impl.Term, _ []impl.Term, _ []impl.Term) {
		var c calls
		x := c.of(impl.SeriesOfCoordinates(d, n, a))
		list := c.ofTerms(impl.LieCoordinates(x))
		for _, w := range lyndonInOrder(d, n) {
			want := zero
			for _, term := range list {
				if term.Word == w {
					want = term.Value
				}
			}
			got, code := impl.PairSeries(x, c.of(impl.DualSeries(d, n, w)))
			if max(code, c.code) != impl.ErrLimit {
				checkFraction(t, "the pairing with the dual series of "+w, got, max(code, c.code), want, impl.ErrNone)
				held++
			}
		}
	})
	checkHeld(t, held)
}

func TestRepeatedBracketsAreCommutators(t *testing.T) {
	held := 0
	promiseSamples(func(x impl.Series, y impl.Series, z impl.Series) {
		var c calls
		want := y
		for k := int64(0); k <= impl.MaxPower; k++ {
			if c.checkEqual(t, "repeated brackets", c.of(impl.RepeatedBracket(x, y, k)), want) {
				held++
			}
			want = c.of(impl.CommutatorOf(x, want))
		}
	})
	checkHeld(t, held)
}

// exp(x) y exp(-x) is the sum of the repeated brackets, divided by factorials.
func TestRepeatedBracketsAddUpToTurns(t *testing.T) {
	held := 0
	promiseSamples(func(x impl.Series, y impl.Series, z impl.Series) {
		x = withConstant(t, x, zero)
		var c calls
		sum, factorial := impl.Series{Letters: x.Letters, Level: x.Level}, int64(1)
		for k := int64(0); k <= x.Level; k++ {
			factorial *= max(k, 1)
			sum = c.of(impl.AddSeries(sum, c.of(impl.ScaleSeries(c.of(impl.RepeatedBracket(x, y, k)), fr(1, factorial)))))
		}
		back := c.of(impl.ExponentialOf(c.of(impl.ScaleSeries(x, fr(-1, 1)))))
		turned := c.of(impl.MultiplySeries(c.of(impl.MultiplySeries(c.of(impl.ExponentialOf(x)), y)), back))
		if c.checkEqual(t, "exp(x) y exp(-x)", turned, sum) {
			held++
		}
	})
	checkHeld(t, held)
}

// Left brackets are repeated ones of the letters from the second one on, with a sign for each.
func TestLeftBracketsAreRepeatedBrackets(t *testing.T) {
	eachShape(func(d int64, n int64) {
		for i := range d {
			for k := range d {
				for times := int64(0); times < n; times++ {
					var c calls
					w := string(rune('0'+i)) + string(slices.Repeat([]byte{byte('0' + k)}, int(times)))
					left := c.of(impl.LeftBracket(d, n, w))
					letter := c.of(impl.ScaleSeries(c.of(impl.LetterSeries(d, n, k)), fr(-1, 1)))
					c.checkEqual(t, "the left bracket of "+w, left, c.of(impl.RepeatedBracket(letter, c.of(impl.LetterSeries(d, n, i)), times)))
					if c.code != impl.ErrNone {
						t.Errorf("the left bracket of %s has the code %d", w, c.code)
					}
				}
			}
		}
	})
}
