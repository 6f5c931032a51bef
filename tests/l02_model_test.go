package tests

import (
	"math/big"
	"math/rand/v2"
	"testing"

	"loop.example/g01260/impl"
)

// model is a series of exact numbers, with 0 at words without a term, and whether all numbers on
// the way to it fit. It goes on where a number does not fit, so that it also tells what the result
// would be.
type model struct {
	d, n int64
	at   map[string]*big.Rat
	fits bool
}

// isFitting reports whether an exact number is a fraction.
func isFitting(a *big.Rat) bool {
	_, code := fitted(a)
	return code == impl.ErrNone
}

func emptyModel(d int64, n int64) model {
	m := model{d, n, map[string]*big.Rat{}, true}
	for _, w := range allWords(d, n) {
		m.at[w] = new(big.Rat)
	}
	return m
}

func unitModel(d int64, n int64) model {
	m := emptyModel(d, n)
	m.at[""].SetInt64(1)
	return m
}

func modelOf(x impl.Series) model {
	m := emptyModel(x.Letters, x.Level)
	for _, term := range x.Terms {
		m.at[term.Word] = bigOf(term.Value)
	}
	return m
}

// add adds a number at a word.
func (m *model) add(w string, a *big.Rat) {
	m.at[w] = new(big.Rat).Add(m.at[w], a)
	m.fits = m.fits && isFitting(a) && isFitting(m.at[w])
}

// times returns the product. It goes along the first factor, so that each word gets its summands
// from the shortest first part on.
func (m model) times(other model) model {
	product := emptyModel(m.d, m.n)
	product.fits = m.fits && other.fits
	for _, u := range allWords(m.d, m.n) {
		if m.at[u].Sign() == 0 {
			continue
		}
		for _, v := range allWords(m.d, m.n-int64(len(u))) {
			if other.at[v].Sign() != 0 {
				product.add(u+v, new(big.Rat).Mul(m.at[u], other.at[v]))
			}
		}
	}
	return product
}

// plus returns the sum with the multiple of another one.
func (m model) plus(other model, number *big.Rat) model {
	sum := emptyModel(m.d, m.n)
	sum.fits = m.fits && other.fits
	for w, a := range m.at {
		sum.at[w].Set(a)
		sum.add(w, new(big.Rat).Mul(other.at[w], number))
	}
	return sum
}

func (m model) multiple(number *big.Rat) model {
	return emptyModel(m.d, m.n).plus(m, number)
}

func (m model) power(k int64) model {
	power := unitModel(m.d, m.n)
	for range k {
		power = power.times(m)
	}
	return power
}

// sumOfPowers returns the sum of the powers from a first one to the level, each one times number(k).
func (m model) sumOfPowers(from int64, number func(k int64) *big.Rat) model {
	sum := emptyModel(m.d, m.n)
	for k := from; k <= m.n; k++ {
		sum = sum.plus(m.power(k), number(k))
	}
	return sum
}

func (m model) inverse() model {
	reciprocal := new(big.Rat).Inv(m.at[""])
	y := m.multiple(reciprocal).plus(unitModel(m.d, m.n), big.NewRat(-1, 1))
	sum := y.sumOfPowers(0, func(k int64) *big.Rat { return big.NewRat(1-2*(k%2), 1) })
	return sum.multiple(reciprocal)
}

func (m model) exponential() model {
	return m.sumOfPowers(0, func(k int64) *big.Rat {
		return new(big.Rat).SetFrac(big.NewInt(1), new(big.Int).MulRange(1, k))
	})
}

func (m model) logarithm() model {
	y := m.plus(unitModel(m.d, m.n), big.NewRat(-1, 1))
	return y.sumOfPowers(1, func(k int64) *big.Rat { return big.NewRat(2*(k%2)-1, k) })
}

func (m model) commutator(other model) model {
	return m.times(other).plus(other.times(m), big.NewRat(-1, 1))
}

// series returns the series, and whether its own numbers fit.
func (m model) series() (impl.Series, bool) {
	x := impl.Series{Letters: m.d, Level: m.n}
	for _, w := range allWords(m.d, m.n) {
		value, code := fitted(m.at[w])
		if code != impl.ErrNone {
			return impl.Series{}, false
		}
		if value != zero {
			x.Terms = append(x.Terms, impl.Term{Word: w, Value: value})
		}
	}
	return x, true
}

// tally counts how results of a function came out.
type tally struct{ fit, tooLarge, onTheWay int }

// check compares a result with the model.
func (c *tally) check(t *testing.T, name string, x impl.Series, code int64, want model) {
	t.Helper()
	series, fits := want.series()
	switch {
	case want.fits:
		c.fit++
		if code != impl.ErrNone || !sameSeries(x, series) {
			t.Errorf("%s = %v, %d, want %v", name, x, code, series)
		}
		return
	case fits:
		c.onTheWay++
	default:
		c.tooLarge++
	}
	checkSeriesError(t, name, x, code, impl.ErrLimit)
}

// sparseSeries returns a series with about one word out of step, and values up to size(number of
// letters), whole or with denominators of at most den.
func sparseSeries(r *rand.Rand, d int64, n int64, step int, size func(length int) int64, den int64) impl.Series {
	x := impl.Series{Letters: d, Level: n}
	for _, w := range allWords(d, n) {
		most := size(len(w))
		value, code := impl.FractionOf(r.Int64N(2*most+1)-most, r.Int64N(den)+1)
		if r.IntN(step) == 0 && value != zero && code == impl.ErrNone {
			x.Terms = append(x.Terms, impl.Term{Word: w, Value: value})
		}
	}
	return x
}

// gradedSize lets values grow with the words, so that all powers come near the limit together.
func gradedSize(length int) int64 {
	return []int64{3, 1000, 1000000, impl.MaxPart, impl.MaxPart, impl.MaxPart}[length]
}

// evenSize lets products of two values come near the limit.
func evenSize(length int) int64 {
	return 31622
}

// smallSize keeps products small.
func smallSize(length int) int64 {
	return 4
}

// modelSamples returns series of one shape with small and with large values.
func modelSamples(r *rand.Rand, d int64, n int64) []impl.Series {
	return []impl.Series{
		sparseSeries(r, d, n, 2, smallSize, 3),
		sparseSeries(r, d, n, 2, smallSize, 1),
		sparseSeries(r, d, n, 2, evenSize, 1),
		sparseSeries(r, d, n, 4, evenSize, 40),
		sparseSeries(r, d, n, 2, gradedSize, 1),
		sparseSeries(r, d, n, 5, gradedSize, 2),
		sparseSeries(r, d, n, 1, smallSize, 1),
	}
}

// withConstant returns a series with another constant.
func withConstant(t *testing.T, x impl.Series, constant impl.Fraction) impl.Series {
	t.Helper()
	z, code := impl.PutTerm(x, "", constant)
	if code != impl.ErrNone {
		t.Fatalf("PutTerm(%v, %v): code %d", x, constant, code)
	}
	return z
}

// eachSample calls a function for samples of all letters and levels, and often for those of few
// words, among which there are more that fit at the end but not on the way.
func eachSample(r *rand.Rand, do func(samples []impl.Series)) {
	for d := int64(1); d <= impl.MaxLetter; d++ {
		for n := int64(1); n <= levelsOf(d); n++ {
			do(modelSamples(r, d, n))
		}
	}
	for range 150 {
		for n := int64(1); n <= 3; n++ {
			do([]impl.Series{
				sparseSeries(r, 1, n, 1, evenSize, 1),
				sparseSeries(r, 1, n, 1, evenSize, 1),
				sparseSeries(r, 1, n, 1, gradedSize, 1),
				sparseSeries(r, 1, n, 1, gradedSize, 3),
			})
		}
	}
}

// checkTally requires that each outcome was met.
func (c *tally) checkTally(t *testing.T, name string) {
	t.Helper()
	if c.fit < 50 || c.tooLarge < 50 || c.onTheWay < 10 {
		t.Errorf("%s: only %d results fit, %d do not, and %d not on the way alone", name, c.fit, c.tooLarge, c.onTheWay)
	}
}

func TestProductsFollowTheModel(t *testing.T) {
	r := rand.New(rand.NewPCG(2, 1))
	var products, commutators tally
	eachSample(r, func(samples []impl.Series) {
		for _, x := range samples {
			for _, y := range samples {
				z, code := impl.MultiplySeries(x, y)
				products.check(t, "MultiplySeries", z, code, modelOf(x).times(modelOf(y)))
				z, code = impl.CommutatorOf(x, y)
				commutators.check(t, "CommutatorOf", z, code, modelOf(x).commutator(modelOf(y)))
			}
		}
	})
	products.checkTally(t, "MultiplySeries")
	commutators.checkTally(t, "CommutatorOf")
}

func TestPowersFollowTheModel(t *testing.T) {
	r := rand.New(rand.NewPCG(2, 2))
	var powers tally
	eachSample(r, func(samples []impl.Series) {
		for _, x := range samples {
			for _, constant := range []impl.Fraction{zero, fr(1, 1), fr(-5, 2)} {
				x := withConstant(t, x, constant)
				for _, k := range []int64{0, 1, 2, 3, 5, impl.MaxPower} {
					z, code := impl.PowerSeries(x, k)
					powers.check(t, "PowerSeries", z, code, modelOf(x).power(k))
				}
			}
		}
	})
	powers.checkTally(t, "PowerSeries")
}

func TestInversesFollowTheModel(t *testing.T) {
	r := rand.New(rand.NewPCG(2, 3))
	var inverses tally
	eachSample(r, func(samples []impl.Series) {
		for _, x := range samples {
			for _, constant := range []impl.Fraction{fr(1, 1), fr(-1, 1), fr(3, 2), fr(-2, 1), fr(1000, 1), fr(1, 7)} {
				x := withConstant(t, x, constant)
				z, code := impl.InverseSeries(x)
				inverses.check(t, "InverseSeries", z, code, modelOf(x).inverse())
			}
		}
	})
	inverses.checkTally(t, "InverseSeries")
}

func TestExponentialsAndLogarithmsFollowTheModel(t *testing.T) {
	r := rand.New(rand.NewPCG(2, 4))
	var exponentials, logarithms tally
	eachSample(r, func(samples []impl.Series) {
		for _, x := range samples {
			x = withConstant(t, x, zero)
			z, code := impl.ExponentialOf(x)
			exponentials.check(t, "ExponentialOf", z, code, modelOf(x).exponential())
			x = withConstant(t, x, fr(1, 1))
			z, code = impl.LogarithmOf(x)
			logarithms.check(t, "LogarithmOf", z, code, modelOf(x).logarithm())
		}
	})
	exponentials.checkTally(t, "ExponentialOf")
	logarithms.checkTally(t, "LogarithmOf")
}
