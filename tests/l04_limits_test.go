package tests

import (
	"slices"
	"testing"

	"loop.example/g01260/impl"
)

// fitCase is a path, and whether all fractions on the way to a series of it fit.
type fitCase struct {
	d, n int64
	p    path
	fits bool
}

// checkFits compares the code of a series with whether it should fit.
func checkFits(t *testing.T, name string, p path, x impl.Series, code int64, fits bool) {
	t.Helper()
	if !fits {
		checkSeriesError(t, name, x, code, impl.ErrLimit)
		return
	}
	if code != impl.ErrNone || !impl.IsSeries(x) {
		t.Errorf("%s for %v = %v, %d", name, p, x, code)
	}
}

func TestStepSignaturesFitOnTheWay(t *testing.T) {
	for _, c := range []fitCase{
		{1, 4, path{{100}}, true},
		{1, 4, path{{-100}}, true},
		{2, 4, path{{100, -100}}, true},
		{3, 4, path{{-100, 100, -100}}, true},
		// The power 5 of 64 is too great, but its 120th part would not be.
		{1, 5, path{{63}}, true},
		{1, 5, path{{-63}}, true},
		{1, 5, path{{64}}, false},
		{1, 5, path{{-64}}, false},
		{1, 5, path{{100}}, false},
		{2, 5, path{{63, -63}}, true},
		{2, 5, path{{0, 64}}, false},
		{2, 5, path{{1, -64}}, false},
	} {
		x, code := impl.StepSignature(c.d, c.n, c.p[0])
		checkFits(t, "StepSignature", c.p, x, code, c.fits)
		x, code = impl.SignatureOf(c.d, c.n, c.p)
		checkFits(t, "SignatureOf", c.p, x, code, c.fits)
	}
}

// fittingPaths are paths with whether their signatures fit.
func fittingPaths() []fitCase {
	return []fitCase{
		{1, 4, repeated(3, 100), true},
		{1, 4, repeated(4, 100), false},
		// The power 3 of 1002 can be divided by 6, that of 1001 cannot, and is too great a numerator.
		{1, 3, append(repeated(10, 100), []int64{2}), true},
		{1, 3, append(repeated(10, 100), []int64{1}), false},
		{3, 3, repeated(12, 100, -100, 100), true},
		// The fourth step is too much, but those behind it would lead back.
		{1, 4, append(repeated(4, 100), []int64{-100}), false},
		{1, 4, append(repeated(4, 100), repeated(4, -100)...), false},
		{1, 4, append(repeated(3, 100), repeated(3, -100)...), true},
		// From the last step on, it would be too much.
		{1, 4, append(path{{-100}}, repeated(4, 100)...), true},
		// Each step has to fit, even if its opposite is behind it.
		{1, 5, path{{64}, {-64}}, false},
		{1, 5, path{{63}, {-63}}, true},
		{2, 5, path{{1, 0}, {0, 64}, {0, -64}}, false},
		{2, 5, path{{63, 0}, {0, 63}}, true},
	}
}

func TestSignaturesFitOnTheWay(t *testing.T) {
	for _, c := range fittingPaths() {
		x, code := impl.SignatureOf(c.d, c.n, c.p)
		checkFits(t, "SignatureOf", c.p, x, code, c.fits)
	}
	three, _ := impl.SignatureOf(1, 4, repeated(3, 100))
	other, code := impl.SignatureOf(1, 4, append(path{{-100}}, repeated(4, 100)...))
	checkSeries(t, "SignatureOf", other, code, 1, 4, "1/1*+300/1*0+45000/1*00+4500000/1*000+337500000/1*0000")
	if !sameSeries(three, other) {
		t.Errorf("SignatureOf = %v, and %v", three, other)
	}
}

func TestComparedSignaturesFitOnTheWay(t *testing.T) {
	for _, c := range fittingPaths() {
		want := int64(impl.ErrNone)
		if !c.fits {
			want = impl.ErrLimit
		}
		equal, code := impl.AreSignaturesEqual(c.d, c.n, c.p, c.p)
		if equal != c.fits || code != want {
			t.Errorf("AreSignaturesEqual(%d, %d) of %v and itself = %v, %d", c.d, c.n, c.p, equal, code)
		}
		step := path{flatStep(c.d, 1)}
		for _, pair := range [][2]path{{c.p, step}, {step, c.p}} {
			equal, code := impl.AreSignaturesEqual(c.d, c.n, pair[0], pair[1])
			if equal || code != want {
				t.Errorf("AreSignaturesEqual(%d, %d, %v, %v) = %v, %d", c.d, c.n, pair[0], pair[1], equal, code)
			}
		}
	}
}

func TestLogSignaturesFitOnTheWay(t *testing.T) {
	for _, c := range []fitCase{
		{1, 4, path{{100}}, true},
		{1, 4, path{{100}, {100}, {-100}}, true},
		// The logarithm would be one letter, but 7 / 12 of the power 4 of 158 do not fit.
		{1, 4, path{{56}, {100}}, true},
		{1, 4, path{{-56}, {-100}}, true},
		{1, 4, path{{58}, {100}}, false},
		{1, 4, path{{-58}, {-100}}, false},
		{1, 4, repeated(2, 100), false},
		// The power 3 of 1002 does not fit.
		{1, 3, repeated(10, 100), true},
		{1, 3, append(repeated(10, 100), []int64{2}), false},
		{1, 5, path{{63}}, false},
		{1, 2, repeated(12, 100), true},
		// The signature does not fit.
		{1, 4, append(repeated(4, 100), repeated(4, -100)...), false},
		{1, 5, path{{64}, {-64}}, false},
	} {
		x, code := impl.LogSignature(c.d, c.n, c.p)
		checkFits(t, "LogSignature", c.p, x, code, c.fits)
		if end, _ := impl.EndOf(1, c.p); c.fits {
			letter := impl.Term{Word: "0", Value: fr(end[0], 1)}
			if want := (impl.Series{Letters: 1, Level: c.n, Terms: []impl.Term{letter}}); !sameSeries(x, want) {
				t.Errorf("LogSignature of %v = %v", c.p, x)
			}
		}
	}
	x, code := impl.LogSignature(3, 1, repeated(12, 100, -100, 100))
	checkSeries(t, "LogSignature", x, code, 3, 1, "1200/1*0+-1200/1*1+1200/1*2")
}

func TestMeanSignaturesFitOnTheWay(t *testing.T) {
	for _, c := range []struct {
		fitCase
		k int64
	}{
		{fitCase{1, 5, path{{63}}, true}, 0},
		{fitCase{1, 5, path{{63}}, true}, 1},
		// The mean is made ahead of the power 0, too.
		{fitCase{1, 5, path{{64}}, false}, 0},
		{fitCase{1, 5, path{{1}, {64}}, false}, 0},
		{fitCase{1, 5, repeated(7, 63), false}, 0},
		// The sum of 7 signatures does not fit, but that of 10 of them would, and the mean does.
		{fitCase{1, 5, repeated(6, 63), true}, 1},
		{fitCase{1, 5, repeated(7, 63), false}, 1},
		{fitCase{1, 5, repeated(10, 63), false}, 1},
		{fitCase{1, 4, repeated(12, 100), true}, 1},
		{fitCase{1, 4, path{{100}}, true}, 3},
		{fitCase{1, 4, path{{100}}, false}, 4},
		{fitCase{1, 3, path{{100}}, true}, 8},
		{fitCase{3, 2, repeated(12, 100, -100, 100), true}, 8},
	} {
		x, code := impl.MeanSignature(c.d, c.n, c.p, c.k)
		checkFits(t, "MeanSignature", c.p, x, code, c.fits)
	}
}

func TestSumsOfSignaturesAreMadeInOrder(t *testing.T) {
	// Opposite steps take away the words with an odd number of letters, so that their order decides.
	steps := append(repeated(7, 63), repeated(3, -63)...)
	x, code := impl.MeanSignature(1, 5, steps, 1)
	checkSeriesError(t, "MeanSignature", x, code, impl.ErrLimit)
	slices.Reverse(steps)
	x, code = impl.MeanSignature(1, 5, steps, 1)
	checkFits(t, "MeanSignature", steps, x, code, true)
}
