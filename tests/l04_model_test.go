package tests

import (
	"math/big"
	"math/rand/v2"
	"testing"

	"loop.example/g01260/impl"
)

// stepModel returns the model of the signature of a step.
func stepModel(n int64, step []int64) model {
	m := emptyModel(int64(len(step)), n)
	for i, number := range step {
		m.at[string(rune('0'+i))].SetInt64(number)
	}
	return m.exponential()
}

// signatureModel returns the model of the signature of a path.
func signatureModel(d int64, n int64, p path) model {
	m := unitModel(d, n)
	for _, step := range p {
		m = m.times(stepModel(n, step))
	}
	return m
}

// meanModel returns the model of a mean signature.
func meanModel(d int64, n int64, steps path, k int64) model {
	sum := emptyModel(d, n)
	for _, step := range steps {
		sum = sum.plus(stepModel(n, step), big.NewRat(1, 1))
	}
	mean := sum.multiple(big.NewRat(1, int64(len(steps))))
	power := mean.power(k)
	// The mean is made ahead of the power 0, too.
	power.fits = power.fits && mean.fits
	return power
}

// randomPath returns a path with numbers of at most a size.
func randomPath(r *rand.Rand, d int64, steps int, most int64) path {
	var p path
	for range steps {
		step := flatStep(d, 0)
		for i := range step {
			step[i] = r.Int64N(2*most+1) - most
		}
		p = append(p, step)
	}
	return p
}

// risingPath returns a path with numbers from half of a size to the size.
func risingPath(r *rand.Rand, d int64, steps int, most int64) path {
	p := randomPath(r, d, steps, most/4)
	for _, step := range p {
		for i := range step {
			step[i] += most - most/4
		}
	}
	return p
}

// eachModelPath calls a function for paths of all shapes, and often for those of one letter at the
// highest levels, among which there are more that fit at the end but not on the way.
func eachModelPath(r *rand.Rand, do func(d int64, n int64, p path)) {
	eachShape(func(d int64, n int64) {
		for _, most := range []int64{0, 1, 7, 30, 63, impl.MaxStep} {
			do(d, n, randomPath(r, d, r.IntN(5), most))
			do(d, n, windingPath(r, d, r.IntN(7), most))
		}
	})
	for range 60 {
		do(1, 4, windingPath(r, 1, 4+r.IntN(6), impl.MaxStep))
		do(1, 4, risingPath(r, 1, 2+r.IntN(6), impl.MaxStep))
		do(1, 5, windingPath(r, 1, 2+r.IntN(6), 66))
		do(1, 5, windingPath(r, 1, 2+r.IntN(4), 20))
		do(2, 3, windingPath(r, 2, 2+r.IntN(6), impl.MaxStep))
		do(2, 4, windingPath(r, 2, 2+r.IntN(4), 66))
	}
}

func TestSignaturesFollowTheModel(t *testing.T) {
	var c tally
	eachModelPath(rand.New(rand.NewPCG(4, 3)), func(d int64, n int64, p path) {
		x, code := impl.SignatureOf(d, n, p)
		c.check(t, "SignatureOf", x, code, signatureModel(d, n, p))
	})
	c.checkTally(t, "SignatureOf")
}

func TestLogSignaturesFollowTheModel(t *testing.T) {
	var c tally
	eachModelPath(rand.New(rand.NewPCG(4, 4)), func(d int64, n int64, p path) {
		x, code := impl.LogSignature(d, n, p)
		c.check(t, "LogSignature", x, code, signatureModel(d, n, p).logarithm())
	})
	if c.fit < 50 || c.onTheWay < 50 {
		t.Errorf("LogSignature: only %d results fit, and %d do not on the way alone", c.fit, c.onTheWay)
	}
}

func TestMeanSignaturesFollowTheModel(t *testing.T) {
	r := rand.New(rand.NewPCG(4, 5))
	var c tally
	eachModelPath(r, func(d int64, n int64, p path) {
		if len(p) == 0 {
			return
		}
		k := r.Int64N(9)
		x, code := impl.MeanSignature(d, n, p, k)
		c.check(t, "MeanSignature", x, code, meanModel(d, n, p, k))
	})
	c.checkTally(t, "MeanSignature")
}

func TestComparedSignaturesFollowTheModel(t *testing.T) {
	r := rand.New(rand.NewPCG(4, 6))
	equal, different, limit := 0, 0, 0
	eachModelPath(r, func(d int64, n int64, a path) {
		for _, b := range []path{reversedPath(reversedPath(a)), reversedPath(a), randomPath(r, d, 1, 2)} {
			x, y := signatureModel(d, n, a), signatureModel(d, n, b)
			same, code := x.isEqual(y), int64(impl.ErrNone)
			if !x.fits || !y.fits {
				same, code = false, impl.ErrLimit
			}
			got, gotCode := impl.AreSignaturesEqual(d, n, a, b)
			if got != same || gotCode != code {
				t.Errorf("AreSignaturesEqual(%d, %d, %v, %v) = %v, %d", d, n, a, b, got, gotCode)
			}
			switch {
			case code != impl.ErrNone:
				limit++
			case same:
				equal++
			default:
				different++
			}
		}
	})
	if min(equal, different, limit) < 50 {
		t.Errorf("%d signatures are equal, %d are not, and %d do not fit", equal, different, limit)
	}
}

// isEqual reports whether two models of one shape have the same numbers.
func (m model) isEqual(other model) bool {
	for w, a := range m.at {
		if a.Cmp(other.at[w]) != 0 {
			return false
		}
	}
	return true
}

// reversedPath returns the reversed path.
func reversedPath(p path) path {
	var reversed path
	for i := len(p) - 1; i >= 0; i-- {
		var step []int64
		for _, number := range p[i] {
			step = append(step, -number)
		}
		reversed = append(reversed, step)
	}
	return reversed
}

// corners returns the places after each step, the beginning included.
func corners(d int64, p path) [][]int64 {
	list := [][]int64{flatStep(d, 0)}
	for _, step := range p {
		next := flatStep(d, 0)
		for i := range next {
			next[i] = list[len(list)-1][i] + step[i]
		}
		list = append(list, next)
	}
	return list
}

// loopArea returns twice the area of the loop through corners, by the rule for polygons.
func loopArea(list [][]int64, i int64, k int64) int64 {
	area := int64(0)
	for a := range list {
		p, q := list[a], list[(a+1)%len(list)]
		area += p[i]*q[k] - p[k]*q[i]
	}
	return area
}

func TestAreasAreThoseOfLoops(t *testing.T) {
	r := rand.New(rand.NewPCG(4, 7))
	for range 500 {
		d := r.Int64N(impl.MaxLetter) + 1
		p := randomPath(r, d, r.IntN(impl.MaxSteps+1), impl.MaxStep)
		for i := range d {
			for k := range d {
				area, code := impl.DoubleArea(d, p, i, k)
				if want := loopArea(corners(d, p), i, k); area != want || code != impl.ErrNone {
					t.Errorf("DoubleArea(%d, %v, %d, %d) = %d, %d, want %d", d, p, i, k, area, code, want)
				}
			}
		}
	}
}
