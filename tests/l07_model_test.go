package tests

import (
	"math/big"
	"math/rand/v2"
	"slices"
	"testing"

	"loop.example/g01260/impl"
)

// numberAt returns the product of the numbers of a map for the letters of w and v at each place.
func numberAt(m rowList, w string, v string) int64 {
	product := int64(1)
	for i := range len(w) {
		product *= m[w[i]-'0'][v[i]-'0']
	}
	return product
}

// mapped returns what a map makes of a model, in the order of the document.
func (m model) mapped(e int64, rows rowList) model {
	sum := emptyModel(e, m.n)
	words := allWords(e, m.n)
	for _, w := range allWords(m.d, m.n) {
		if m.at[w].Sign() == 0 {
			continue
		}
		for _, v := range words {
			if len(v) != len(w) {
				continue
			}
			if number := numberAt(rows, w, v); number != 0 {
				sum.add(v, new(big.Rat).Mul(m.at[w], big.NewRat(number, 1)))
			}
		}
	}
	return sum
}

// randomMap returns a map with numbers of at most a size, of which about so many thirds as zeros tells
// are 0.
func randomMap(r *rand.Rand, d int64, e int64, most int64, zeros int) rowList {
	m := flatRows(d, e, 0)
	for _, row := range m {
		for k := range row {
			if r.IntN(3) >= zeros {
				row[k] = r.Int64N(2*most+1) - most
			}
		}
	}
	return m
}

// eachMapSample calls a function for maps of all numbers of letters and series of all shapes, and often
// for those of few words, among which there are more that fit at the end but not on the way.
func eachMapSample(r *rand.Rand, do func(x impl.Series, e int64, m rowList)) {
	eachShape(func(d int64, n int64) {
		for e := int64(1); e <= impl.MaxLetter; e++ {
			for _, x := range append(modelSamples(r, d, n), sparseSeries(r, d, n, 2, flatSize, 1)) {
				do(x, e, randomMap(r, d, e, 2, 1))
				do(x, e, randomMap(r, d, e, impl.MaxMapped, 2))
				do(x, e, randomMap(r, d, e, 1, 0))
			}
		}
	})
	for range 200 {
		do(sparseSeries(r, 3, 1, 1, flatSize, 1), 1, flatRows(3, 1, 1))
		do(sparseSeries(r, 2, 2, 1, flatSize, 1), 1, randomMap(r, 2, 1, 1, 0))
		do(sparseSeries(r, 2, 3, 3, flatSize, 1), 2, randomMap(r, 2, 2, 1, 0))
		do(sparseSeries(r, 3, 2, 3, smallSize, 31700), 2, randomMap(r, 3, 2, 1, 1))
		do(sparseSeries(r, 1, 5, 2, smallSize, 1000), 1, randomMap(r, 1, 1, impl.MaxMapped, 0))
	}
}

func TestMappedSeriesFollowTheModel(t *testing.T) {
	var c tally
	eachMapSample(rand.New(rand.NewPCG(7, 1)), func(x impl.Series, e int64, m rowList) {
		got, code := impl.MapSeries(x, e, m)
		if e == 3 && x.Level == 5 {
			checkSeriesError(t, "MapSeries", got, code, impl.ErrRange)
			return
		}
		c.check(t, "MapSeries", got, code, modelOf(x).mapped(e, m))
	})
	c.checkTally(t, "MapSeries")
}

// isLeft tells whether a map leaves a model, and the code.
func (m model) isLeft(rows rowList) (bool, int64) {
	made := m.mapped(m.d, rows)
	if !made.fits {
		return false, impl.ErrLimit
	}
	return made.isEqual(m), impl.ErrNone
}

func TestUnchangedSeriesFollowTheModel(t *testing.T) {
	r := rand.New(rand.NewPCG(7, 2))
	equal, different, limit := 0, 0, 0
	check := func(x impl.Series, m rowList) {
		got, code := impl.IsUnchanged(x, m)
		want, wantCode := modelOf(x).isLeft(m)
		if got != want || code != wantCode {
			t.Errorf("IsUnchanged(%v, %v) = %v, %d, want %v, %d", x, m, got, code, want, wantCode)
		}
		switch {
		case wantCode != impl.ErrNone:
			limit++
		case want:
			equal++
		default:
			different++
		}
	}
	eachShape(func(d int64, n int64) {
		for _, x := range modelSamples(r, d, n) {
			opposite := oppositeRows(unitMap(d))
			for _, m := range []rowList{unitMap(d), opposite, randomMap(r, d, d, 1, 1), randomMap(r, d, d, impl.MaxMapped, 1), randomMap(r, d, d, impl.MaxMapped, 0)} {
				check(x, m)
			}
			// A series and what a turn makes of it are left by the turn together.
			turn := unitMap(d)
			slices.Reverse(turn)
			y, _ := impl.MapSeries(x, d, turn)
			if z, code := impl.AddSeries(x, y); code == impl.ErrNone {
				check(z, turn)
			}
			// The opposite map leaves words of even lengths.
			even := impl.Series{Letters: d, Level: n, Terms: slices.Clone(x.Terms)}
			even.Terms = slices.DeleteFunc(even.Terms, func(term impl.Term) bool { return len(term.Word)%2 == 1 })
			check(even, opposite)
		}
	})
	if min(equal, different, limit) < 40 {
		t.Errorf("%d series are left, %d are not, and %d do not fit", equal, different, limit)
	}
}

// oppositeRows returns rows with the opposite numbers.
func oppositeRows(rows rowList) rowList {
	opposite := rowList{}
	for _, row := range rows {
		numbers := slices.Clone(row)
		for i := range numbers {
			numbers[i] = -numbers[i]
		}
		opposite = append(opposite, numbers)
	}
	return opposite
}

// productOfRows returns the sums of the numbers of each row times the rows of a map to e letters.
func productOfRows(rows rowList, m rowList, e int64) rowList {
	product := rowList{}
	for _, row := range rows {
		sums := flatStep(e, 0)
		for k := range sums {
			for i, number := range row {
				sums[k] += number * m[i][k]
			}
		}
		product = append(product, sums)
	}
	return product
}

// fitsIn reports whether all numbers of rows are of at most a size.
func fitsIn(rows rowList, most int64) bool {
	for _, row := range rows {
		if slices.Max(row) > most || slices.Min(row) < -most {
			return false
		}
	}
	return true
}

// rowTally counts how results of rows came out.
type rowTally struct{ fit, tooGreat int }

// check compares a result with rows, or with ErrLimit if one of their numbers is too great.
func (c *rowTally) check(t *testing.T, name string, got rowList, code int64, want rowList) {
	t.Helper()
	if !fitsIn(want, 100) {
		c.tooGreat++
		checkPathError(t, name, got, code, impl.ErrLimit)
		return
	}
	c.fit++
	checkPath(t, name, got, code, want)
}

func TestMappedPathsFollowTheModel(t *testing.T) {
	r := rand.New(rand.NewPCG(7, 3))
	var c rowTally
	eachPair(func(d int64, e int64) {
		for range 60 {
			for _, most := range []int64{1, 3, 10, 100} {
				p, m := randomPath(r, d, r.IntN(impl.MaxSteps+1), most), randomMap(r, d, e, 10, 1)
				got, code := impl.MapPath(d, p, e, m)
				c.check(t, "MapPath", got, code, productOfRows(p, m, e))
			}
		}
	})
	if min(c.fit, c.tooGreat) < 200 {
		t.Errorf("%d paths fit, and %d do not", c.fit, c.tooGreat)
	}
}

func TestCompositionsFollowTheModel(t *testing.T) {
	r := rand.New(rand.NewPCG(7, 4))
	var c rowTally
	eachPair(func(d int64, e int64) {
		for f := int64(1); f <= impl.MaxLetter; f++ {
			for range 30 {
				for _, most := range []int64{1, 6, 10, 100} {
					first, second := randomMap(r, d, e, most, 1), randomMap(r, e, f, 10, 1)
					got, code := impl.ComposeMaps(d, e, f, first, second)
					c.check(t, "ComposeMaps", got, code, productOfRows(first, second, f))
				}
			}
		}
	})
	if min(c.fit, c.tooGreat) < 200 {
		t.Errorf("%d compositions fit, and %d do not", c.fit, c.tooGreat)
	}
}

// listsOfLetters returns all lists of d different letters.
func listsOfLetters(d int64) [][]int64 {
	lists := [][]int64{nil}
	for range d {
		var longer [][]int64
		for _, list := range lists {
			for i := range d {
				if !slices.Contains(list, i) {
					longer = append(longer, append(slices.Clone(list), i))
				}
			}
		}
		lists = longer
	}
	return lists
}

// exchanged returns the series with letters replaced one by one.
func exchanged(x impl.Series, letters []int64) impl.Series {
	m := emptyModel(x.Letters, x.Level)
	for _, term := range x.Terms {
		w := []byte(term.Word)
		for i := range w {
			w[i] = byte('0' + letters[w[i]-'0'])
		}
		m.at[string(w)] = bigOf(term.Value)
	}
	y, _ := m.series()
	return y
}

func TestExchangesOfAllLists(t *testing.T) {
	eachShape(func(d int64, n int64) {
		lists := listsOfLetters(d)
		if len(lists) != []int{0, 1, 2, 6}[d] {
			t.Fatalf("there are %d lists of %d letters", len(lists), d)
		}
		for _, letters := range lists {
			for _, x := range []impl.Series{mixedSeries(d, n, 3, 4), mixedSeries(d, n, 2, 7), largeSeries(d, n)} {
				got, code := impl.ExchangeLetters(x, letters)
				if want := exchanged(x, letters); code != impl.ErrNone || !sameSeries(got, want) {
					t.Errorf("ExchangeLetters of %v by %v = %v, %d, want %v", x, letters, got, code, want)
				}
			}
		}
	})
}
