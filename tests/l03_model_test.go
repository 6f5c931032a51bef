package tests

import (
	"math/big"
	"math/rand/v2"
	"testing"

	"loop.example/g01260/impl"
)

// shuffleModels makes models of shuffles. It keeps the words of shuffles that it has counted.
type shuffleModels struct {
	counts map[string]map[string]int64
}

func newShuffleModels() shuffleModels {
	return shuffleModels{map[string]map[string]int64{}}
}

// of returns the numbers of the words of a shuffle, or half shuffle.
func (s shuffleModels) of(v string, w string, half bool) map[string]int64 {
	key := v + "," + w
	if half {
		key += ",half"
	}
	if s.counts[key] == nil {
		s.counts[key] = takings(v, w, half)
	}
	return s.counts[key]
}

// shuffle returns the shuffle, or half shuffle, of two models, in the order of the document.
func (s shuffleModels) shuffle(x model, y model, half bool) model {
	sum := emptyModel(x.d, x.n)
	sum.fits = x.fits && y.fits
	words := allWords(x.d, x.n)
	for _, v := range words {
		if x.at[v].Sign() == 0 || half && v == "" {
			continue
		}
		for _, w := range words {
			if y.at[w].Sign() != 0 {
				s.addShuffle(&sum, v, w, half, new(big.Rat).Mul(x.at[v], y.at[w]))
			}
		}
	}
	return sum
}

// addShuffle adds the shuffle of two words, times a product.
func (s shuffleModels) addShuffle(sum *model, v string, w string, half bool, product *big.Rat) {
	sum.fits = sum.fits && isFitting(product)
	if int64(len(v)+len(w)) > sum.n {
		return
	}
	for u, number := range s.of(v, w, half) {
		sum.add(u, new(big.Rat).Mul(product, big.NewRat(number, 1)))
	}
}

func (s shuffleModels) power(x model, k int64) model {
	power := unitModel(x.d, x.n)
	for range k {
		power = s.shuffle(power, x, false)
	}
	return power
}

// numberModel is an exact number, and whether all numbers on the way to it fit.
type numberModel struct {
	value *big.Rat
	fits  bool
}

// addProduct adds a product.
func (m *numberModel) addProduct(a *big.Rat, b *big.Rat) {
	product := new(big.Rat).Mul(a, b)
	m.value = new(big.Rat).Add(m.value, product)
	m.fits = m.fits && isFitting(product) && isFitting(m.value)
}

// pairing returns the pairing of two models.
func (m model) pairing(other model) numberModel {
	sum := numberModel{new(big.Rat), true}
	for _, w := range allWords(m.d, m.n) {
		if m.at[w].Sign() != 0 && other.at[w].Sign() != 0 {
			sum.addProduct(m.at[w], other.at[w])
		}
	}
	return sum
}

// valueAt returns the value of a model at a shuffle.
func (s shuffleModels) valueAt(m model, v string, w string) numberModel {
	counts := s.of(v, w, false)
	sum := numberModel{new(big.Rat), true}
	for _, u := range allWords(m.d, m.n) {
		if counts[u] != 0 && m.at[u].Sign() != 0 {
			sum.addProduct(m.at[u], big.NewRat(counts[u], 1))
		}
	}
	return sum
}

// tellsOf returns whether a model is group-like, or a Lie series, and the code.
func (s shuffleModels) tellsOf(m model, group bool) (bool, int64) {
	constant := int64(0)
	if group {
		constant = 1
	}
	if m.at[""].Cmp(big.NewRat(constant, 1)) != 0 {
		return false, impl.ErrNone
	}
	words := allWords(m.d, m.n)[1:]
	for _, v := range words {
		for _, w := range words {
			if int64(len(v)+len(w)) > m.n {
				continue
			}
			want := new(big.Rat)
			if group {
				want.Mul(m.at[v], m.at[w])
			}
			value := s.valueAt(m, v, w)
			if !isFitting(want) || !value.fits {
				return false, impl.ErrLimit
			}
			if value.value.Cmp(want) != 0 {
				return false, impl.ErrNone
			}
		}
	}
	return true, impl.ErrNone
}

// checkNumber compares a fraction with a model.
func (c *tally) checkNumber(t *testing.T, name string, a impl.Fraction, code int64, want numberModel) {
	t.Helper()
	exact, exactCode := fitted(want.value)
	switch {
	case want.fits:
		c.fit++
		checkFraction(t, name, a, code, exact, impl.ErrNone)
		return
	case exactCode == impl.ErrNone:
		c.onTheWay++
	default:
		c.tooLarge++
	}
	checkFraction(t, name, a, code, impl.Fraction{}, impl.ErrLimit)
}

func TestShufflesFollowTheModel(t *testing.T) {
	r := rand.New(rand.NewPCG(3, 1))
	s := newShuffleModels()
	var shuffles, halves tally
	eachSample(r, func(samples []impl.Series) {
		for _, x := range samples {
			for _, y := range samples {
				z, code := impl.ShuffleSeries(x, y)
				shuffles.check(t, "ShuffleSeries", z, code, s.shuffle(modelOf(x), modelOf(y), false))
				z, code = impl.HalfShuffle(x, y)
				halves.check(t, "HalfShuffle", z, code, s.shuffle(modelOf(x), modelOf(y), true))
			}
		}
	})
	shuffles.checkTally(t, "ShuffleSeries")
	halves.checkTally(t, "HalfShuffle")
}

func TestShufflePowersFollowTheModel(t *testing.T) {
	r := rand.New(rand.NewPCG(3, 2))
	s := newShuffleModels()
	var powers tally
	eachSample(r, func(samples []impl.Series) {
		for _, x := range samples {
			for _, constant := range []impl.Fraction{zero, fr(1, 1), fr(-5, 2)} {
				x := withConstant(t, x, constant)
				for _, k := range []int64{0, 1, 2, 3, impl.MaxShuffle} {
					z, code := impl.ShufflePower(x, k)
					powers.check(t, "ShufflePower", z, code, s.power(modelOf(x), k))
				}
			}
		}
	})
	powers.checkTally(t, "ShufflePower")
}

// flatSize lets sums of a few values pass the limit.
func flatSize(length int) int64 {
	return impl.MaxPart
}

func TestPairingsFollowTheModel(t *testing.T) {
	r := rand.New(rand.NewPCG(3, 3))
	var pairings tally
	eachSample(r, func(samples []impl.Series) {
		d, n := samples[0].Letters, samples[0].Level
		samples = append(samples, sparseSeries(r, d, n, 2, flatSize, 1), sparseSeries(r, d, n, 1, smallSize, 1))
		for _, x := range samples {
			for _, y := range samples {
				a, code := impl.PairSeries(x, y)
				pairings.checkNumber(t, "PairSeries", a, code, modelOf(x).pairing(modelOf(y)))
			}
		}
	})
	pairings.checkTally(t, "PairSeries")
}

func TestValuesAtShufflesFollowTheModel(t *testing.T) {
	r := rand.New(rand.NewPCG(3, 4))
	s := newShuffleModels()
	var found tally
	eachShape(func(d int64, n int64) {
		for _, x := range append(modelSamples(r, d, n), sparseSeries(r, d, n, 1, flatSize, 1)) {
			m := modelOf(x)
			for _, v := range allWords(d, n) {
				for _, w := range allWords(d, n-int64(len(v))) {
					a, code := impl.ValueAtShuffle(x, v, w)
					found.checkNumber(t, "ValueAtShuffle "+v+" and "+w, a, code, s.valueAt(m, v, w))
				}
			}
		}
	})
	found.checkTally(t, "ValueAtShuffle")
}

// toldSamples returns series with a constant, of which some are group-like or Lie series, and others
// are not far from it.
func toldSamples(t *testing.T, r *rand.Rand, d int64, n int64, group bool) []impl.Series {
	var list []impl.Series
	for _, size := range []int64{1, 3, 40, 1000, 40000, impl.MaxPart} {
		x := impl.Series{Letters: d, Level: n}
		for i := range d {
			value, _ := impl.FractionOf(r.Int64N(2*size+1)-size, r.Int64N(2)+1)
			x, _ = impl.PutTerm(x, string(rune('0'+i)), value)
		}
		y, code := impl.ExponentialOf(x)
		if code != impl.ErrNone || !group {
			y = x
		}
		words := allWords(d, n)
		for range 6 {
			value, _ := impl.FractionOf(r.Int64N(2*size+1)-size, 1)
			z, _ := impl.PutTerm(y, words[r.IntN(len(words))], value)
			list = append(list, z, y)
		}
	}
	constant := zero
	if group {
		constant = fr(1, 1)
	}
	list = append(list, modelSamples(r, d, n)...)
	for i := range list {
		if i%10 != 9 {
			list[i] = withConstant(t, list[i], constant)
		}
	}
	return list
}

// checkTold compares what a function tells of series with the model.
func checkTold(t *testing.T, name string, do func(x impl.Series) (bool, int64), group bool) {
	t.Helper()
	r := rand.New(rand.NewPCG(3, 5))
	s := newShuffleModels()
	var yes, no, limit int
	eachShape(func(d int64, n int64) {
		for _, x := range toldSamples(t, r, d, n, group) {
			got, code := do(x)
			want, wantCode := s.tellsOf(modelOf(x), group)
			if got != want || code != wantCode {
				t.Errorf("%s of %v = %v, %d, want %v, %d", name, x, got, code, want, wantCode)
			}
			switch {
			case wantCode != impl.ErrNone:
				limit++
			case want:
				yes++
			default:
				no++
			}
		}
	})
	if yes < 50 || no < 50 || limit < 20 {
		t.Errorf("%s: %d samples hold, %d do not, and %d do not fit", name, yes, no, limit)
	}
}

func TestSeriesAreToldAsByTheModel(t *testing.T) {
	checkTold(t, "IsGroupLike", impl.IsGroupLike, true)
	checkTold(t, "IsLieSeries", impl.IsLieSeries, false)
}
