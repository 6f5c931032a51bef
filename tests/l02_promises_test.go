package tests

import (
	"math/rand/v2"
	"testing"

	"loop.example/g01260/impl"
)

// calls keeps the first error of functions that are called one inside the other.
type calls struct{ code int64 }

// of returns a series that a function has returned, and keeps its error.
func (c *calls) of(x impl.Series, code int64) impl.Series {
	if c.code == impl.ErrNone {
		c.code = code
	}
	return x
}

// checkEqual compares two ways to a series, if all fractions on them fit. It reports whether they do.
func (c *calls) checkEqual(t *testing.T, name string, x impl.Series, y impl.Series) bool {
	t.Helper()
	if c.code != impl.ErrNone {
		if c.code != impl.ErrLimit {
			t.Errorf("%s: code %d", name, c.code)
		}
		return false
	}
	if !impl.IsSeries(x) || !sameSeries(x, y) {
		t.Errorf("%s: %v, and %v", name, x, y)
	}
	return true
}

// promiseSamples calls a function for three series of each shape, with small values.
func promiseSamples(do func(x impl.Series, y impl.Series, z impl.Series)) {
	r := rand.New(rand.NewPCG(2, 5))
	eachShape(func(d int64, n int64) {
		for range 8 {
			do(sparseSeries(r, d, n, 2, smallSize, 2), sparseSeries(r, d, n, 3, smallSize, 2),
				sparseSeries(r, d, n, 2, smallSize, 1))
		}
	})
}

// checkHeld requires that a promise was looked at often enough.
func checkHeld(t *testing.T, held int) {
	t.Helper()
	if held < 60 {
		t.Errorf("only %d samples fit", held)
	}
}

func TestProductsAreAssociative(t *testing.T) {
	held := 0
	promiseSamples(func(x impl.Series, y impl.Series, z impl.Series) {
		var c calls
		left := c.of(impl.MultiplySeries(c.of(impl.MultiplySeries(x, y)), z))
		right := c.of(impl.MultiplySeries(x, c.of(impl.MultiplySeries(y, z))))
		if c.checkEqual(t, "(x y) z and x (y z)", left, right) {
			held++
		}
	})
	checkHeld(t, held)
}

func TestTheUnitIsTheUnit(t *testing.T) {
	eachShape(func(d int64, n int64) {
		for step := 1; step <= 4; step++ {
			x := mixedSeries(d, n, step, 4)
			unit, _ := impl.UnitSeries(d, n)
			if !sameSeries(unit, unitOf(d, n)) {
				t.Errorf("UnitSeries(%d, %d) = %v", d, n, unit)
			}
			var c calls
			c.checkEqual(t, "x times the unit", c.of(impl.MultiplySeries(x, unit)), x)
			c.checkEqual(t, "the unit times x", c.of(impl.MultiplySeries(unit, x)), x)
			if c.code != impl.ErrNone {
				t.Errorf("a product with the unit has the code %d", c.code)
			}
		}
	})
}

func TestProductsGoWithSums(t *testing.T) {
	held := 0
	promiseSamples(func(x impl.Series, y impl.Series, z impl.Series) {
		var c calls
		left := c.of(impl.MultiplySeries(x, c.of(impl.AddSeries(y, z))))
		right := c.of(impl.AddSeries(c.of(impl.MultiplySeries(x, y)), c.of(impl.MultiplySeries(x, z))))
		if c.checkEqual(t, "x (y + z) and x y + x z", left, right) {
			held++
		}
	})
	checkHeld(t, held)
}

func TestPowersArePowers(t *testing.T) {
	held := 0
	promiseSamples(func(x impl.Series, y impl.Series, z impl.Series) {
		var c calls
		power := unitOf(z.Letters, z.Level)
		for k := int64(0); k <= 5; k++ {
			c.checkEqual(t, "powers", c.of(impl.PowerSeries(z, k)), power)
			power = c.of(impl.MultiplySeries(z, power))
		}
		left := c.of(impl.MultiplySeries(c.of(impl.PowerSeries(z, 2)), c.of(impl.PowerSeries(z, 3))))
		if c.checkEqual(t, "the powers 2 and 3, and 5", left, c.of(impl.PowerSeries(z, 5))) {
			held++
		}
	})
	checkHeld(t, held)
}

func TestLogarithmsUndoExponentials(t *testing.T) {
	held := 0
	promiseSamples(func(x impl.Series, y impl.Series, z impl.Series) {
		for _, x := range []impl.Series{x, y, z} {
			x = withConstant(t, x, zero)
			var c calls
			if c.checkEqual(t, "log exp x and x", c.of(impl.LogarithmOf(c.of(impl.ExponentialOf(x)))), x) {
				held++
			}
			x = withConstant(t, x, fr(1, 1))
			c = calls{}
			if c.checkEqual(t, "exp log x and x", c.of(impl.ExponentialOf(c.of(impl.LogarithmOf(x)))), x) {
				held++
			}
		}
	})
	checkHeld(t, held)
}

func TestInversesLeadToTheUnit(t *testing.T) {
	held := 0
	promiseSamples(func(x impl.Series, y impl.Series, z impl.Series) {
		for _, constant := range []impl.Fraction{fr(1, 1), fr(-1, 1), fr(2, 1), fr(-3, 2)} {
			x := withConstant(t, x, constant)
			var c calls
			inverse := c.of(impl.InverseSeries(x))
			unit := unitOf(x.Letters, x.Level)
			c.checkEqual(t, "x times its inverse", c.of(impl.MultiplySeries(x, inverse)), unit)
			c.checkEqual(t, "the inverse times x", c.of(impl.MultiplySeries(inverse, x)), unit)
			if c.checkEqual(t, "the inverse of the inverse", c.of(impl.InverseSeries(inverse)), x) {
				held++
			}
		}
	})
	checkHeld(t, held)
}

func TestInversesTurnProductsRound(t *testing.T) {
	held := 0
	promiseSamples(func(x impl.Series, y impl.Series, z impl.Series) {
		x, y = withConstant(t, x, fr(1, 1)), withConstant(t, y, fr(-1, 1))
		var c calls
		left := c.of(impl.InverseSeries(c.of(impl.MultiplySeries(x, y))))
		right := c.of(impl.MultiplySeries(c.of(impl.InverseSeries(y)), c.of(impl.InverseSeries(x))))
		if c.checkEqual(t, "inverses of x y and y x", left, right) {
			held++
		}
	})
	checkHeld(t, held)
}

func TestExponentialsOfOppositesAreInverses(t *testing.T) {
	held := 0
	promiseSamples(func(x impl.Series, y impl.Series, z impl.Series) {
		x = withConstant(t, x, zero)
		var c calls
		opposite := c.of(impl.ScaleSeries(x, fr(-1, 1)))
		left := c.of(impl.ExponentialOf(opposite))
		if c.checkEqual(t, "exp - x", left, c.of(impl.InverseSeries(c.of(impl.ExponentialOf(x))))) {
			held++
		}
	})
	checkHeld(t, held)
}

func TestReversalsTurnProductsRound(t *testing.T) {
	held := 0
	promiseSamples(func(x impl.Series, y impl.Series, z impl.Series) {
		for _, turn := range []func(x impl.Series) (impl.Series, int64){impl.ReversalOf, impl.AntipodeOf} {
			var c calls
			c.checkEqual(t, "turned twice", c.of(turn(c.of(turn(x)))), x)
			left := c.of(turn(c.of(impl.MultiplySeries(x, y))))
			right := c.of(impl.MultiplySeries(c.of(turn(y)), c.of(turn(x))))
			if c.checkEqual(t, "x y turned", left, right) {
				held++
			}
		}
	})
	checkHeld(t, held)
}

func TestAntipodesOfExponentialsOfLettersAreInverses(t *testing.T) {
	eachShape(func(d int64, n int64) {
		product := unitOf(d, n)
		var c calls
		for i := range d {
			letter := c.of(impl.LetterSeries(d, n, i))
			scaled := c.of(impl.ScaleSeries(letter, fr(2*i+1, 2)))
			product = c.of(impl.MultiplySeries(product, c.of(impl.ExponentialOf(scaled))))
		}
		if !c.checkEqual(t, "antipode and inverse", c.of(impl.AntipodeOf(product)), c.of(impl.InverseSeries(product))) {
			t.Errorf("for %d and %d there is the code %d", d, n, c.code)
		}
	})
}

func TestCommutatorsAreDifferences(t *testing.T) {
	held := 0
	promiseSamples(func(x impl.Series, y impl.Series, z impl.Series) {
		var c calls
		commutator := c.of(impl.CommutatorOf(x, y))
		sum := c.of(impl.AddSeries(commutator, c.of(impl.MultiplySeries(y, x))))
		c.checkEqual(t, "[x, y] + y x and x y", sum, c.of(impl.MultiplySeries(x, y)))
		opposite := c.of(impl.ScaleSeries(c.of(impl.CommutatorOf(y, x)), fr(-1, 1)))
		c.checkEqual(t, "[x, y] and - [y, x]", commutator, opposite)
		if c.checkEqual(t, "[x, x]", c.of(impl.CommutatorOf(x, x)), impl.Series{Letters: x.Letters, Level: x.Level}) {
			held++
		}
	})
	checkHeld(t, held)
}

func TestTruncationsGoWithProducts(t *testing.T) {
	held := 0
	promiseSamples(func(x impl.Series, y impl.Series, z impl.Series) {
		for level := int64(1); level <= x.Level; level++ {
			var c calls
			left := c.of(impl.TruncateSeries(c.of(impl.MultiplySeries(x, y)), level))
			right := c.of(impl.MultiplySeries(c.of(impl.TruncateSeries(x, level)), c.of(impl.TruncateSeries(y, level))))
			if c.checkEqual(t, "x y truncated", left, right) {
				held++
			}
		}
	})
	checkHeld(t, held)
}

func TestConstantsGoWithProducts(t *testing.T) {
	held := 0
	promiseSamples(func(x impl.Series, y impl.Series, z impl.Series) {
		product, code := impl.MultiplySeries(x, y)
		if code != impl.ErrNone {
			return
		}
		a, _ := impl.ConstantOf(x)
		b, _ := impl.ConstantOf(y)
		want, _ := impl.MultiplyFractions(a, b)
		got, code := impl.ConstantOf(product)
		checkFraction(t, "ConstantOf a product", got, code, want, impl.ErrNone)
		held++
	})
	checkHeld(t, held)
}
