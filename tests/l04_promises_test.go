package tests

import (
	"math/rand/v2"
	"slices"
	"testing"

	"loop.example/g01260/impl"
)

// ofPath returns a path that a function has returned, and keeps its error.
func (c *calls) ofPath(p path, code int64) path {
	if c.code == impl.ErrNone {
		c.code = code
	}
	return p
}

// eachPromisePath calls a function for pairs of paths of all shapes, most of which have signatures
// that fit.
func eachPromisePath(seed uint64, do func(d int64, n int64, a path, b path)) {
	r := rand.New(rand.NewPCG(4, seed))
	eachShape(func(d int64, n int64) {
		for range 6 {
			do(d, n, randomPath(r, d, r.IntN(4), 3), randomPath(r, d, r.IntN(4), 3))
			do(d, n, windingPath(r, d, r.IntN(7), 4), windingPath(r, d, r.IntN(7), 2))
			do(d, n, randomPath(r, d, 1+r.IntN(2), 50), windingPath(r, d, r.IntN(4), 2))
		}
	})
}

func TestSignaturesOfJoinedPathsAreProducts(t *testing.T) {
	held := 0
	eachPromisePath(10, func(d int64, n int64, a path, b path) {
		var c calls
		x, y := c.of(impl.SignatureOf(d, n, a)), c.of(impl.SignatureOf(d, n, b))
		joined := c.of(impl.SignatureOf(d, n, c.ofPath(impl.JoinPaths(d, a, b))))
		if c.checkEqual(t, "the joined path", joined, c.of(impl.MultiplySeries(x, y))) {
			held++
		}
	})
	checkHeld(t, held)
}

func TestSignaturesAreProductsOfThoseOfSteps(t *testing.T) {
	held := 0
	eachPromisePath(11, func(d int64, n int64, a path, b path) {
		var c calls
		product := c.of(impl.UnitSeries(d, n))
		for _, step := range a {
			product = c.of(impl.MultiplySeries(product, c.of(impl.StepSignature(d, n, step))))
		}
		if c.checkEqual(t, "the product of steps", product, c.of(impl.SignatureOf(d, n, a))) {
			held++
		}
	})
	checkHeld(t, held)
}

func TestReducedPathsHaveTheSameSignature(t *testing.T) {
	held, shorter := 0, 0
	eachPromisePath(12, func(d int64, n int64, a path, b path) {
		for _, p := range []path{a, b, slices.Concat(a, reversedPath(a)), slices.Concat(a, b, reversedPath(b))} {
			if len(p) > impl.MaxSteps {
				continue
			}
			var c calls
			reduced := c.ofPath(impl.ReducePath(d, p))
			x, y := c.of(impl.SignatureOf(d, n, p)), c.of(impl.SignatureOf(d, n, reduced))
			equal, code := impl.AreSignaturesEqual(d, n, p, reduced)
			if !c.checkEqual(t, "the reduced path", x, y) {
				continue
			}
			if !equal || code != impl.ErrNone {
				t.Errorf("AreSignaturesEqual(%d, %d, %v, %v) = %v, %d", d, n, p, reduced, equal, code)
			}
			held++
			if len(reduced) < len(p) {
				shorter++
			}
		}
	})
	checkHeld(t, held)
	checkHeld(t, shorter)
}

func TestPathsAndTheirReversesReduceToNothing(t *testing.T) {
	held := 0
	eachPromisePath(13, func(d int64, n int64, a path, b path) {
		var c calls
		joined := c.ofPath(impl.JoinPaths(d, a, c.ofPath(impl.ReversePath(d, a))))
		reduced := c.ofPath(impl.ReducePath(d, joined))
		if c.code != impl.ErrNone {
			return
		}
		if held++; len(reduced) > 0 {
			t.Errorf("%v leads to %v", joined, reduced)
		}
	})
	checkHeld(t, held)
}

func TestDividedStepsAndDetoursLeaveSignatures(t *testing.T) {
	r := rand.New(rand.NewPCG(4, 14))
	held := 0
	eachPromisePath(15, func(d int64, n int64, a path, b path) {
		if len(a) == 0 || len(a)+2*len(b) > impl.MaxSteps {
			return
		}
		i := r.IntN(len(a))
		var c calls
		twice := c.ofPath(impl.ScalePath(d, a, 2))
		divided := slices.Concat(twice[:i], path{a[i], a[i]}, twice[i+1:])
		c.checkEqual(t, "the divided step", c.of(impl.SignatureOf(d, n, twice)), c.of(impl.SignatureOf(d, n, divided)))
		c = calls{}
		detour := slices.Concat(a[:i], b, reversedPath(b), a[i:])
		if c.checkEqual(t, "the detour", c.of(impl.SignatureOf(d, n, a)), c.of(impl.SignatureOf(d, n, detour))) {
			held++
		}
	})
	checkHeld(t, held)
}

func TestSignaturesOfReversedPathsAreAntipodes(t *testing.T) {
	held := 0
	eachPromisePath(16, func(d int64, n int64, a path, b path) {
		for _, p := range []path{a, b} {
			var c calls
			x := c.of(impl.SignatureOf(d, n, p))
			reversed := c.of(impl.SignatureOf(d, n, c.ofPath(impl.ReversePath(d, p))))
			if !c.checkEqual(t, "the antipode", reversed, c.of(impl.AntipodeOf(x))) {
				continue
			}
			held++
			c.checkEqual(t, "the inverse", reversed, c.of(impl.InverseSeries(x)))
			checkReversedLog(t, d, n, p)
		}
	})
	checkHeld(t, held)
}

// checkReversedLog compares the logarithm for a reversed path with the opposite one.
func checkReversedLog(t *testing.T, d int64, n int64, p path) {
	t.Helper()
	var c calls
	log := c.of(impl.LogSignature(d, n, c.ofPath(impl.ReversePath(d, p))))
	opposite := c.of(impl.ScaleSeries(c.of(impl.LogSignature(d, n, p)), fr(-1, 1)))
	c.checkEqual(t, "the opposite logarithm", log, opposite)
}

func TestSignaturesAreGroupLike(t *testing.T) {
	held := 0
	eachPromisePath(17, func(d int64, n int64, a path, b path) {
		var c calls
		x := c.of(impl.SignatureOf(d, n, a))
		log := c.of(impl.LogSignature(d, n, a))
		if !c.checkEqual(t, "exp log", c.of(impl.ExponentialOf(log)), x) {
			return
		}
		group, code := impl.IsGroupLike(x)
		lie, other := impl.IsLieSeries(log)
		// The products of two values may be too large where the values are not.
		if code == impl.ErrLimit || other == impl.ErrLimit {
			return
		}
		if !group || !lie {
			t.Errorf("IsGroupLike and IsLieSeries for %v: %v, %d, and %v, %d", a, group, code, lie, other)
		}
		held++
	})
	checkHeld(t, held)
}

// valueOf returns the coefficient of a word.
func valueOf(t *testing.T, x impl.Series, w string) impl.Fraction {
	t.Helper()
	a, code := impl.CoefficientOf(x, w)
	if code != impl.ErrNone {
		t.Errorf("CoefficientOf(%v, %q): code %d", x, w, code)
	}
	return a
}

func TestEndsAndAreasAreValuesOfSignatures(t *testing.T) {
	r := rand.New(rand.NewPCG(4, 18))
	for range 200 {
		d := r.Int64N(impl.MaxLetter) + 1
		p := randomPath(r, d, r.IntN(impl.MaxSteps+1), impl.MaxStep)
		x, code := impl.SignatureOf(d, 2, p)
		end, endCode := impl.EndOf(d, p)
		if code != impl.ErrNone || endCode != impl.ErrNone || int64(len(end)) != d {
			t.Errorf("SignatureOf and EndOf(%d, %v) = %v: codes %d and %d", d, p, end, code, endCode)
			continue
		}
		words := allWords(d, 1)[1:]
		for i, v := range words {
			if a := valueOf(t, x, v); a != fr(end[i], 1) {
				t.Errorf("the end of %v is %v, but its signature has %v at %s", p, end, a, v)
			}
			for k, w := range words {
				area, _ := impl.DoubleArea(d, p, int64(i), int64(k))
				opposite, _ := impl.MultiplyFractions(valueOf(t, x, w+v), fr(-1, 1))
				got, code := impl.AddFractions(valueOf(t, x, v+w), opposite)
				checkFraction(t, "the area by the signature", got, code, fr(area, 1), impl.ErrNone)
			}
		}
	}
}

func TestScaledPathsScaleSignatures(t *testing.T) {
	held := 0
	eachPromisePath(19, func(d int64, n int64, a path, b path) {
		for _, k := range []int64{-2, -1, 0, 1, 3} {
			var c calls
			x := c.of(impl.SignatureOf(d, n, a))
			got := c.of(impl.SignatureOf(d, n, c.ofPath(impl.ScalePath(d, a, k))))
			want := c.of(impl.PartOf(x, 0))
			factor := int64(1)
			for length := int64(1); length <= n && c.code == impl.ErrNone; length++ {
				factor *= k
				part := c.of(impl.ScaleSeries(c.of(impl.PartOf(x, length)), fr(factor, 1)))
				want = c.of(impl.AddSeries(want, part))
			}
			if c.checkEqual(t, "the scaled path", got, want) {
				held++
			}
		}
	})
	checkHeld(t, held)
}

func TestSignaturesOfLowerLevelsAreTruncations(t *testing.T) {
	held := 0
	eachPromisePath(20, func(d int64, n int64, a path, b path) {
		for level := int64(1); level <= n; level++ {
			var c calls
			x := c.of(impl.SignatureOf(d, n, a))
			if c.checkEqual(t, "the truncation", c.of(impl.TruncateSeries(x, level)), c.of(impl.SignatureOf(d, level, a))) {
				held++
			}
		}
	})
	checkHeld(t, held)
}

func TestMeansOfOneStepAreItsSignatures(t *testing.T) {
	held := 0
	eachPromisePath(21, func(d int64, n int64, a path, b path) {
		if len(a) == 0 {
			return
		}
		for k := int64(0); k <= 8; k++ {
			var c calls
			along := c.of(impl.SignatureOf(d, n, repeated(int(k), a[0]...)))
			mean := c.of(impl.MeanSignature(d, n, path{a[0]}, k))
			c.checkEqual(t, "the mean of one step", mean, along)
			many := c.of(impl.MeanSignature(d, n, repeated(5, a[0]...), k))
			if c.checkEqual(t, "the mean of equal steps", many, along) {
				held++
			}
		}
	})
	checkHeld(t, held)
}

// The mean of all walks of two steps is the power 2 of the mean of steps.
func TestMeansOfWalks(t *testing.T) {
	held := 0
	eachPromisePath(22, func(d int64, n int64, a path, b path) {
		if len(a) == 0 || len(a) > 4 {
			return
		}
		var c calls
		sum := impl.Series{Letters: d, Level: n}
		for _, v := range a {
			for _, w := range a {
				sum = c.of(impl.AddSeries(sum, c.of(impl.SignatureOf(d, n, path{v, w}))))
			}
		}
		mean := c.of(impl.ScaleSeries(sum, fr(1, int64(len(a)*len(a)))))
		if c.checkEqual(t, "the mean of walks", c.of(impl.MeanSignature(d, n, a, 2)), mean) {
			held++
		}
	})
	checkHeld(t, held)
}
