package tests

import (
	"math/rand/v2"
	"testing"

	"loop.example/g01260/impl"
)

// mapBetween is a map with its numbers of letters.
type mapBetween struct {
	d, e int64
	rows rowList
}

// of returns what the map makes of a series, and keeps an error.
func (m mapBetween) of(c *calls, x impl.Series) impl.Series {
	return c.of(impl.MapSeries(x, m.e, m.rows))
}

// ofPath returns what the map makes of a path, and keeps an error.
func (m mapBetween) ofPath(c *calls, p path) path {
	return c.ofPath(impl.MapPath(m.d, p, m.e, m.rows))
}

// eachPromiseMap calls a function for maps of all numbers of letters, with the levels that both sides
// have.
func eachPromiseMap(seed uint64, do func(r *rand.Rand, m mapBetween, n int64)) {
	r := rand.New(rand.NewPCG(7, seed))
	eachPair(func(d int64, e int64) {
		for n := int64(1); n <= min(levelsOf(d), levelsOf(e)); n++ {
			for range 3 {
				do(r, mapBetween{d, e, randomMap(r, d, e, 1, 0)}, n)
				do(r, mapBetween{d, e, randomMap(r, d, e, 3, 1)}, n)
			}
		}
	})
}

// smallSample returns a series with small values.
func smallSample(r *rand.Rand, d int64, n int64) impl.Series {
	return sparseSeries(r, d, n, 2, smallSize, 2)
}

func TestCompositionsMakeWhatTheMapsMake(t *testing.T) {
	held := 0
	eachPromiseMap(20, func(r *rand.Rand, first mapBetween, n int64) {
		for f := int64(1); f <= impl.MaxLetter; f++ {
			if n > levelsOf(f) {
				continue
			}
			var c calls
			second := mapBetween{first.e, f, randomMap(r, first.e, f, 3, 1)}
			both := mapBetween{first.d, f, c.ofPath(impl.ComposeMaps(first.d, first.e, f, first.rows, second.rows))}
			if c.code == impl.ErrNone && !impl.IsMap(first.d, f, both.rows) {
				t.Errorf("the composition of %v and %v is %v", first, second, both)
			}
			x := smallSample(r, first.d, n)
			c.checkEqual(t, "the composition", both.of(&c, x), second.of(&c, first.of(&c, x)))
			p := randomPath(r, first.d, r.IntN(6), 3)
			after, along := second.ofPath(&c, first.ofPath(&c, p)), both.ofPath(&c, p)
			if c.code != impl.ErrNone {
				continue
			}
			held++
			checkPath(t, "the path of the composition", along, impl.ErrNone, after)
		}
	})
	checkHeld(t, held)
}

func TestCompositionsAreAssociative(t *testing.T) {
	held := 0
	eachPromiseMap(21, func(r *rand.Rand, m mapBetween, n int64) {
		d, e := m.d, m.e
		second, third := randomMap(r, e, n%3+1, 3, 1), randomMap(r, n%3+1, d, 3, 1)
		var c calls
		left := c.ofPath(impl.ComposeMaps(d, n%3+1, d, c.ofPath(impl.ComposeMaps(d, e, n%3+1, m.rows, second)), third))
		right := c.ofPath(impl.ComposeMaps(d, e, d, m.rows, c.ofPath(impl.ComposeMaps(e, n%3+1, d, second, third))))
		if c.code == impl.ErrNone {
			held++
			checkPath(t, "(first second) third", left, c.code, right)
		}
		unit := c.ofPath(impl.ComposeMaps(d, d, e, unitMap(d), m.rows))
		checkPath(t, "the unit map and another", unit, impl.ErrNone, m.rows)
		unit = c.ofPath(impl.ComposeMaps(d, e, e, m.rows, unitMap(e)))
		checkPath(t, "a map and the unit map", unit, impl.ErrNone, m.rows)
	})
	checkHeld(t, held)
}

func TestTransposedCompositionsTurnRound(t *testing.T) {
	held := 0
	eachPromiseMap(22, func(r *rand.Rand, m mapBetween, n int64) {
		d, e, f := m.d, m.e, n%3+1
		second := randomMap(r, e, f, 3, 1)
		var c calls
		left := c.ofPath(impl.TransposeMap(d, f, c.ofPath(impl.ComposeMaps(d, e, f, m.rows, second))))
		right := c.ofPath(impl.ComposeMaps(f, e, d, c.ofPath(impl.TransposeMap(e, f, second)), c.ofPath(impl.TransposeMap(d, e, m.rows))))
		if c.code == impl.ErrNone {
			held++
			checkPath(t, "the transposed composition", left, c.code, right)
		}
	})
	checkHeld(t, held)
}

// The pairing of x with what the transposed map makes of y is that of what the map makes of x with y.
func TestTransposedMapsPairTheOtherWay(t *testing.T) {
	held := 0
	eachPromiseMap(23, func(r *rand.Rand, m mapBetween, n int64) {
		var c calls
		back := mapBetween{m.e, m.d, c.ofPath(impl.TransposeMap(m.d, m.e, m.rows))}
		x, y := smallSample(r, m.d, n), smallSample(r, m.e, n)
		left, leftCode := impl.PairSeries(m.of(&c, x), y)
		right, rightCode := impl.PairSeries(x, back.of(&c, y))
		if max(c.code, leftCode, rightCode) == impl.ErrNone {
			held++
			checkFraction(t, "the pairing", left, leftCode, right, rightCode)
		}
	})
	checkHeld(t, held)
}

func TestMapsGoWithShufflesAndProducts(t *testing.T) {
	held := 0
	eachPromiseMap(24, func(r *rand.Rand, m mapBetween, n int64) {
		x, y := smallSample(r, m.d, n), smallSample(r, m.d, n)
		for name, do := range map[string]func(x impl.Series, y impl.Series) (impl.Series, int64){
			"ShuffleSeries": impl.ShuffleSeries, "HalfShuffle": impl.HalfShuffle, "MultiplySeries": impl.MultiplySeries,
			"AddSeries": impl.AddSeries, "CommutatorOf": impl.CommutatorOf,
		} {
			var c calls
			before := m.of(&c, c.of(do(x, y)))
			if c.checkEqual(t, name+" of mapped series", c.of(do(m.of(&c, x), m.of(&c, y))), before) {
				held++
			}
		}
	})
	checkHeld(t, held)
}

func TestMapsGoWithFunctionsOfOneSeries(t *testing.T) {
	held := 0
	eachPromiseMap(25, func(r *rand.Rand, m mapBetween, n int64) {
		for name, do := range singleFunctions {
			constant := map[string]impl.Fraction{"ExponentialOf": zero}[name]
			if name != "ExponentialOf" {
				constant = fr(1, 1)
			}
			x := withConstant(t, smallSample(r, m.d, n), constant)
			var c calls
			after, before := c.of(do(m.of(&c, x))), m.of(&c, c.of(do(x)))
			if c.checkEqual(t, name+" of a mapped series", after, before) {
				held++
			}
		}
	})
	checkHeld(t, held)
}

func TestSignaturesOfMappedPathsAreMappedSignatures(t *testing.T) {
	held := 0
	eachPromiseMap(26, func(r *rand.Rand, m mapBetween, n int64) {
		for range 2 {
			p := randomPath(r, m.d, r.IntN(4), 3)
			var c calls
			x := c.of(impl.SignatureOf(m.d, n, p))
			mapped := c.of(impl.SignatureOf(m.e, n, m.ofPath(&c, p)))
			if c.checkEqual(t, "the signature of a mapped path", mapped, m.of(&c, x)) {
				held++
			}
		}
	})
	checkHeld(t, held)
}

// backOf returns the list of letters that leads the exchange by another one back.
func backOf(letters []int64) []int64 {
	back := make([]int64, len(letters))
	for i, letter := range letters {
		back[letter] = int64(i)
	}
	return back
}

func TestExchangesThatLeadBackLeadSeriesBack(t *testing.T) {
	eachShape(func(d int64, n int64) {
		for _, letters := range listsOfLetters(d) {
			for _, x := range []impl.Series{mixedSeries(d, n, 3, 4), largeSeries(d, n), unitOf(d, n), {Letters: d, Level: n}} {
				var c calls
				there := c.of(impl.ExchangeLetters(x, letters))
				back := c.of(impl.ExchangeLetters(there, backOf(letters)))
				if !c.checkEqual(t, "the series led back", back, x) {
					t.Errorf("ExchangeLetters by %v has the code %d", letters, c.code)
				}
				// An exchange is what the map with one 1 in each row makes.
				m := mapBetween{d, d, flatRows(d, d, 0)}
				for i, letter := range letters {
					m.rows[i][letter] = 1
				}
				c.checkEqual(t, "the map of the exchange", m.of(&c, x), there)
				m.rows = c.ofPath(impl.TransposeMap(d, d, m.rows))
				c.checkEqual(t, "the transposed map of the exchange", m.of(&c, there), x)
			}
		}
	})
}

func TestSeriesAreMadeOfWhatTheyAreWithoutLetters(t *testing.T) {
	eachShape(func(d int64, n int64) {
		for _, x := range []impl.Series{mixedSeries(d, n, 3, 4), mixedSeries(d, n, 2, 5)} {
			var c calls
			constant, _ := impl.ConstantOf(x)
			unit := c.of(impl.ScaleSeries(unitOf(d, n), constant))
			ahead, behind := unit, unit
			for i := range d {
				letter := c.of(impl.LetterSeries(d, n, i))
				w := string(rune('0' + i))
				ahead = c.of(impl.AddSeries(ahead, c.of(impl.MultiplySeries(letter, c.of(impl.WithoutBeginning(x, w))))))
				behind = c.of(impl.AddSeries(behind, c.of(impl.MultiplySeries(c.of(impl.WithoutEnd(x, w)), letter))))
			}
			if !c.checkEqual(t, "the series by first letters", ahead, x) || !c.checkEqual(t, "the series by last letters", behind, x) {
				t.Errorf("the parts of %v have the code %d", x, c.code)
			}
		}
	})
}

func TestBeginningsAndEndsAreTurnedRound(t *testing.T) {
	eachShape(func(d int64, n int64) {
		x := mixedSeries(d, n, 4, 7)
		for _, u := range allWords(d, n) {
			var c calls
			without := c.of(impl.WithoutEnd(x, u))
			turned := c.of(impl.ReversalOf(x))
			for i := len(u) - 1; i >= 0; i-- {
				turned = c.of(impl.WithoutBeginning(turned, u[i:i+1]))
			}
			c.checkEqual(t, "the end "+u, c.of(impl.ReversalOf(turned)), without)
			if c.code != impl.ErrNone {
				t.Errorf("WithoutEnd %q has the code %d", u, c.code)
			}
		}
	})
}

// A series that is kept to letters is what the map that leaves these, and leads others to 0, makes.
func TestKeptSeriesAreMappedSeries(t *testing.T) {
	eachShape(func(d int64, n int64) {
		x := mixedSeries(d, n, 3, 5)
		for _, letters := range []string{"", "0", "1", "2", "01", "02", "12", "012"} {
			m := mapBetween{d, d, flatRows(d, d, 0)}
			inRange := true
			for _, letter := range []byte(letters) {
				if inRange = inRange && int64(letter-'0') < d; inRange {
					m.rows[letter-'0'][letter-'0'] = 1
				}
			}
			if !inRange {
				continue
			}
			var c calls
			kept := c.of(impl.KeepLetters(x, letters))
			c.checkEqual(t, "the series kept to "+letters, kept, m.of(&c, x))
			left, code := impl.IsUnchanged(kept, m.rows)
			if !left || code != impl.ErrNone || c.code != impl.ErrNone {
				t.Errorf("IsUnchanged(%v, %v) = %v, %d", kept, m.rows, left, code)
			}
		}
	})
}

func TestDegreesAddUpToLengths(t *testing.T) {
	eachPromiseMap(27, func(r *rand.Rand, m mapBetween, n int64) {
		x := smallSample(r, m.d, n)
		degrees, code := impl.DegreesOf(x)
		if code != impl.ErrNone || len(degrees) != len(x.Terms) {
			t.Fatalf("DegreesOf %v = %v, %d", x, degrees, code)
		}
		for i, list := range degrees {
			length := int64(0)
			for _, number := range list {
				length += number
			}
			if length != int64(len(x.Terms[i].Word)) || int64(len(list)) != m.d {
				t.Errorf("DegreesOf %v has %v for %q", x, list, x.Terms[i].Word)
			}
		}
	})
}
