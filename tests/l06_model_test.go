package tests

import (
	"math/big"
	"math/rand/v2"
	"slices"
	"testing"

	"loop.example/g01260/impl"
)

// sumOfBrackets returns the model of the series of coordinates.
func sumOfBrackets(d int64, n int64, list []impl.Term) model {
	sum := emptyModel(d, n)
	for _, term := range list {
		sum = sum.plus(lyndonModel(d, n, term.Word), bigOf(term.Value))
	}
	return sum
}

// coordinates returns the coordinates of a model that fits, and the code beside them. It ends at the
// first error, and does not look at what would come behind.
func (m model) coordinates() ([]impl.Term, int64) {
	var list []impl.Term
	for _, w := range allWords(m.d, m.n) {
		if m.at[w].Sign() == 0 {
			continue
		}
		if !isLeastTurn(w) {
			return nil, impl.ErrState
		}
		value, _ := fitted(m.at[w])
		list = append(list, impl.Term{Word: w, Value: value})
		m = m.plus(lyndonModel(m.d, m.n, w), new(big.Rat).Neg(m.at[w]))
		if !m.fits {
			return nil, impl.ErrLimit
		}
	}
	return list, impl.ErrNone
}

// coordinatesOnTheWay returns the coordinates of a model, if it fits, and else ErrLimit.
func (m model) coordinatesOnTheWay() ([]impl.Term, int64) {
	if !m.fits {
		return nil, impl.ErrLimit
	}
	return m.coordinates()
}

// joined returns the model of the joined series.
func (m model) joined(other model) model {
	return m.exponential().times(other.exponential()).logarithm()
}

// dynkin returns what the Dynkin map makes of a model.
func (m model) dynkin() model {
	sum := emptyModel(m.d, m.n)
	for _, w := range allWords(m.d, m.n)[1:] {
		if m.at[w].Sign() == 0 {
			continue
		}
		share := new(big.Rat).Mul(m.at[w], big.NewRat(1, int64(len(w))))
		sum.fits = sum.fits && isFitting(share)
		sum = sum.plus(leftModel(m.d, m.n, w), share)
	}
	return sum
}

// lyndonTerms returns the terms of a series whose words are Lyndon words.
func lyndonTerms(x impl.Series) []impl.Term {
	return slices.DeleteFunc(slices.Clone(x.Terms), func(term impl.Term) bool { return !isLeastTurn(term.Word) })
}

// termsAt returns terms at words, with values that are chosen from a list.
func termsAt(r *rand.Rand, values []impl.Fraction, words ...string) []impl.Term {
	var list []impl.Term
	for _, w := range words {
		if a := values[r.IntN(len(values))]; a != zero {
			list = append(list, impl.Term{Word: w, Value: a})
		}
	}
	return list
}

// crossingValues fit as coordinates of brackets that share words, but not with the numbers of all of
// these, or not together.
func crossingValues() []impl.Fraction {
	var list []impl.Fraction
	for k := int64(-4); k <= 4; k++ {
		list = append(list, fr(k*100000000, 1))
	}
	return list
}

// eachLieSample calls a function for coordinates of all shapes, and often for those of brackets that
// share words.
func eachLieSample(r *rand.Rand, do func(d int64, n int64, list []impl.Term)) {
	eachShape(func(d int64, n int64) {
		for _, x := range modelSamples(r, d, n) {
			do(d, n, lyndonTerms(x))
		}
		for range 5 {
			do(d, n, lyndonTerms(sparseSeries(r, d, n, 2, flatSize, 1)))
		}
	})
	for range 100 {
		do(3, 3, lyndonTerms(sparseSeries(r, 3, 3, 2, flatSize, 1)))
		do(3, 3, lyndonTerms(sparseSeries(r, 3, 3, 3, smallSize, 31700)))
		do(2, 5, termsAt(r, crossingValues(), "00011", "00101", "00111", "01011"))
		do(2, 5, termsAt(r, crossingValues(), "00011", "00101"))
		do(3, 4, termsAt(r, crossingValues(), "0012", "0021", "0102"))
		do(3, 4, lyndonTerms(sparseSeries(r, 3, 4, 4, smallSize, 3)))
	}
}

func TestSeriesOfCoordinatesFollowTheModel(t *testing.T) {
	var c tally
	eachLieSample(rand.New(rand.NewPCG(6, 1)), func(d int64, n int64, list []impl.Term) {
		x, code := impl.SeriesOfCoordinates(d, n, list)
		c.check(t, "SeriesOfCoordinates", x, code, sumOfBrackets(d, n, list))
	})
	c.checkTally(t, "SeriesOfCoordinates")
}

func TestSignaturesOfCoordinatesFollowTheModel(t *testing.T) {
	var c tally
	eachLieSample(rand.New(rand.NewPCG(6, 2)), func(d int64, n int64, list []impl.Term) {
		x, code := impl.SignatureOfCoordinates(d, n, list)
		c.check(t, "SignatureOfCoordinates", x, code, sumOfBrackets(d, n, list).exponential())
	})
	c.checkTally(t, "SignatureOfCoordinates")
}

// codes counts how often functions have returned codes.
type codes map[int64]int

// checkList compares a result with coordinates and a code.
func (c codes) checkList(t *testing.T, name string, list []impl.Term, code int64, want []impl.Term, wantCode int64) {
	t.Helper()
	c[wantCode]++
	if code != wantCode || !slices.Equal(list, want) {
		t.Errorf("%s = %v, %d, want %v, %d", name, list, code, want, wantCode)
	}
}

// checkCodes requires that codes were returned often enough.
func (c codes) checkCodes(t *testing.T, name string, want ...int64) {
	t.Helper()
	for _, code := range want {
		if c[code] < 50 {
			t.Errorf("%s: the code %d was returned %d times", name, code, c[code])
		}
	}
}

// nearLieSeries returns a Lie series, and series that differ from it by one term, if it fits.
func nearLieSeries(r *rand.Rand, d int64, n int64, list []impl.Term) []impl.Series {
	x, fits := sumOfBrackets(d, n, list).series()
	if !fits {
		return nil
	}
	near := []impl.Series{x}
	words := allWords(d, n)
	for _, size := range []int64{2, impl.MaxPart} {
		y, _ := impl.PutTerm(x, words[r.IntN(len(words))], fr(r.Int64N(2*size+1)-size, 1))
		near = append(near, y)
	}
	return near
}

func TestLieCoordinatesFollowTheModel(t *testing.T) {
	r := rand.New(rand.NewPCG(6, 3))
	c, oneWay := codes{}, 0
	eachLieSample(r, func(d int64, n int64, list []impl.Term) {
		for i, x := range nearLieSeries(r, d, n, list) {
			got, code := impl.LieCoordinates(x)
			want, wantCode := modelOf(x).coordinates()
			c.checkList(t, "LieCoordinates", got, code, want, wantCode)
			if i > 0 {
				continue
			}
			// This is a Lie series, and its coordinates are known.
			if code == impl.ErrState || code == impl.ErrNone && !slices.Equal(got, list) {
				t.Errorf("LieCoordinates of %v = %v, %d, want %v", x, got, code, list)
			}
			if code == impl.ErrLimit {
				oneWay++
			}
		}
		x := sparseSeries(r, d, n, 2, smallSize, 3)
		got, code := impl.LieCoordinates(x)
		want, wantCode := modelOf(x).coordinates()
		c.checkList(t, "LieCoordinates", got, code, want, wantCode)
	})
	c.checkCodes(t, "LieCoordinates", impl.ErrNone, impl.ErrState, impl.ErrLimit)
	if oneWay < 10 {
		t.Errorf("only %d Lie series with coordinates that fit do not lead to them", oneWay)
	}
}

func TestInverseCoordinatesFollowTheModel(t *testing.T) {
	eachLieSample(rand.New(rand.NewPCG(6, 4)), func(d int64, n int64, list []impl.Term) {
		want := slices.Clone(list)
		for i := range want {
			want[i].Value.Num *= -1
		}
		got, code := impl.InverseCoordinates(d, n, list)
		codes{}.checkList(t, "InverseCoordinates", got, code, want, impl.ErrNone)
	})
}

func TestMultipliedCoordinatesFollowTheModel(t *testing.T) {
	r := rand.New(rand.NewPCG(6, 5))
	c := codes{}
	eachLieSample(r, func(d int64, n int64, list []impl.Term) {
		other := list
		if r.IntN(3) > 0 {
			other = lyndonTerms(sparseSeries(r, d, n, 3, smallSize, 2))
		}
		want, wantCode := sumOfBrackets(d, n, list).joined(sumOfBrackets(d, n, other)).coordinatesOnTheWay()
		got, code := impl.MultiplyCoordinates(d, n, list, other)
		c.checkList(t, "MultiplyCoordinates", got, code, want, wantCode)
	})
	c.checkCodes(t, "MultiplyCoordinates", impl.ErrNone, impl.ErrLimit)
}

func TestPathCoordinatesFollowTheModel(t *testing.T) {
	c := codes{}
	eachModelPath(rand.New(rand.NewPCG(6, 6)), func(d int64, n int64, p path) {
		want, wantCode := signatureModel(d, n, p).logarithm().coordinatesOnTheWay()
		got, code := impl.PathCoordinates(d, n, p)
		c.checkList(t, "PathCoordinates", got, code, want, wantCode)
	})
	c.checkCodes(t, "PathCoordinates", impl.ErrNone, impl.ErrLimit)
}

func TestDynkinMapsFollowTheModel(t *testing.T) {
	r := rand.New(rand.NewPCG(6, 7))
	var c tally
	check := func(x impl.Series) {
		z, code := impl.DynkinMap(x)
		c.check(t, "DynkinMap", z, code, modelOf(x).dynkin())
	}
	eachShape(func(d int64, n int64) {
		for _, x := range modelSamples(r, d, n) {
			check(x)
		}
		for range 10 {
			check(sparseSeries(r, d, n, 3, flatSize, 1))
			check(sparseSeries(r, d, n, 4, smallSize, 31700))
		}
	})
	// The denominators of the first values do not fit together, nor does a half of the last one.
	shares := []impl.Fraction{zero, fr(4, 31607), fr(-4, 31607), fr(4, 31643), fr(-4, 31643)}
	for range 100 {
		check(sparseSeries(r, 2, 2, 1, smallSize, 31700))
		check(sparseSeries(r, 2, 5, 4, flatSize, 1))
		check(impl.Series{Letters: 2, Level: 4, Terms: termsAt(r, shares, "0101", "0110", "1001", "1010")})
		check(impl.Series{Letters: 2, Level: 2, Terms: termsAt(r, []impl.Fraction{zero, fr(1, impl.MaxPart)}, "0", "00", "11")})
	}
	c.checkTally(t, "DynkinMap")
}

func TestJoinedSeriesFollowTheModel(t *testing.T) {
	r := rand.New(rand.NewPCG(6, 8))
	var c tally
	eachSample(r, func(samples []impl.Series) {
		for i := range samples {
			x, y := withConstant(t, samples[i], zero), withConstant(t, samples[(i+1)%len(samples)], zero)
			z, code := impl.JoinedSeries(x, y)
			c.check(t, "JoinedSeries", z, code, modelOf(x).joined(modelOf(y)))
		}
	})
	c.checkTally(t, "JoinedSeries")
}

func TestRepeatedBracketsFollowTheModel(t *testing.T) {
	r := rand.New(rand.NewPCG(6, 9))
	var c tally
	check := func(x impl.Series, y impl.Series, k int64) {
		want := modelOf(y)
		for range k {
			want = modelOf(x).commutator(want)
		}
		z, code := impl.RepeatedBracket(x, y, k)
		c.check(t, "RepeatedBracket", z, code, want)
	}
	eachShape(func(d int64, n int64) {
		samples := append(modelSamples(r, d, n), modelSamples(r, d, n)...)
		for i, x := range samples {
			for _, k := range []int64{0, 1, 2, 3, impl.MaxPower} {
				check(x, samples[(i+1)%len(samples)], k)
				check(withConstant(t, x, zero), samples[(i+3)%len(samples)], k)
			}
		}
	})
	c.checkTally(t, "RepeatedBracket")
}
