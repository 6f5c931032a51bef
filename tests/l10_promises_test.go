package tests

import (
	"math/rand/v2"
	"slices"
	"strings"
	"testing"

	"loop.example/g01260/impl"
)

// eachSequencePair calls a function for pairs of sequences of all shapes, whose joined sequences are not too
// long, and most of whose series fit.
func eachSequencePair(seed uint64, do func(r *rand.Rand, d int64, n int64, a path, b path)) {
	r := rand.New(rand.NewPCG(10, seed))
	eachShape(func(d int64, n int64) {
		for range 6 {
			do(r, d, n, randomPath(r, d, r.IntN(7), 4), randomPath(r, d, r.IntN(7), 4))
			do(r, d, n, withRests(r, windingPath(r, d, r.IntN(4), 30)), windingPath(r, d, r.IntN(3), 10))
			do(r, d, n, randomPath(r, d, impl.MaxSteps-int(n), impl.MaxStep), randomPath(r, d, int(n), 1))
		}
	})
}

// sumSeries are both functions that make series of sums.
var sumSeries = map[string]func(d int64, n int64, p path) (impl.Series, int64){"strict": impl.StrictSeries, "weak": impl.WeakSeries}

func TestSeriesOfJoinedSequencesAreProducts(t *testing.T) {
	for name, do := range sumSeries {
		held := 0
		eachSequencePair(10, func(_ *rand.Rand, d int64, n int64, a path, b path) {
			var c calls
			x, y := c.of(do(d, n, a)), c.of(do(d, n, b))
			joined := c.of(do(d, n, c.ofPath(impl.JoinPaths(d, a, b))))
			if c.checkEqual(t, "the "+name+" series of joined sequences", joined, c.of(impl.MultiplySeries(x, y))) {
				held++
			}
		})
		checkHeld(t, held)
	}
}

func TestInversesOfStrictSeriesAreWeakSeriesWithSigns(t *testing.T) {
	held := 0
	eachSequencePair(11, func(_ *rand.Rand, d int64, n int64, a path, b path) {
		for _, p := range []path{a, b} {
			var c calls
			strict := c.of(impl.StrictSeries(d, n, p))
			antipode := c.of(impl.AntipodeOf(c.of(impl.WeakSeries(d, n, p))))
			c.checkEqual(t, "strict and weak", c.of(impl.MultiplySeries(strict, antipode)), unitOf(d, n))
			c.checkEqual(t, "weak and strict", c.of(impl.MultiplySeries(antipode, strict)), unitOf(d, n))
			if c.checkEqual(t, "the inverse", c.of(impl.InverseSeries(strict)), antipode) {
				held++
			}
		}
	})
	checkHeld(t, held)
}

// The same as above for each word, told by sums alone, which always fit.
func TestSumsOfCutsVanish(t *testing.T) {
	eachSequencePair(12, func(r *rand.Rand, d int64, n int64, a path, b path) {
		words := allWords(d, 5)[1:]
		for range 4 {
			w, sum := words[r.IntN(len(words))], int64(0)
			for cut := range len(w) + 1 {
				strict, code := impl.StrictSum(d, a, w[:cut])
				weak, weakCode := impl.WeakSum(d, a, reversedText(w[cut:]))
				if code != impl.ErrNone || weakCode != impl.ErrNone {
					t.Fatalf("the sums of %v at %q have the codes %d and %d", a, w, code, weakCode)
				}
				if (len(w)-cut)%2 == 1 {
					weak = -weak
				}
				sum += strict * weak
			}
			if sum != 0 {
				t.Errorf("the sums of %v at the cuts of %q have the sum %d", a, w, sum)
			}
		}
	})
}

// Strict series are led back along tables by weak series, as paths are by their reversed paths.
func TestSumsLeadBackAlongVanishingTables(t *testing.T) {
	held := 0
	eachVanishingSample(t, 30, func(r *rand.Rand, d int64, n int64, tables tableList) {
		for _, p := range []path{nil, randomPath(r, d, 1+r.IntN(4), 3), withRests(r, windingPath(r, d, 2+r.IntN(3), 2))} {
			var c calls
			there := c.ofMatrix(impl.ValueOfSeries(c.of(impl.StrictSeries(d, n, p)), tables))
			antipode := c.of(impl.AntipodeOf(c.of(impl.WeakSeries(d, n, p))))
			back := c.ofMatrix(impl.ValueOfSeries(antipode, tables))
			c.checkSameMatrix(t, "there and back", c.ofMatrix(impl.MultiplyTables(there, back)), unitMatrix(tables))
			if c.checkSameMatrix(t, "there", there, alongEntries(&c, p, tables)) {
				held++
			}
		}
	})
	checkHeld(t, held)
}

// alongEntries returns the product, over all entries, of the unit matrix with the sum of the numbers times the
// tables of the letters.
func alongEntries(c *calls, p path, tables tableList) matrix {
	product := unitMatrix(tables)
	for _, entry := range p {
		rows := unitMap(int64(len(tables[0])))
		for letter, number := range entry {
			for i := range rows {
				for k := range rows[i] {
					rows[i][k] += number * tables[letter][i][k]
				}
			}
		}
		product = c.ofMatrix(impl.MultiplyTables(product, wholeMatrix(rows)))
	}
	return product
}

func TestRestsDoNotChangeSums(t *testing.T) {
	held, shorter := 0, 0
	eachSequencePair(13, func(r *rand.Rand, d int64, n int64, a path, b path) {
		p := withRests(r, slices.Clone(a))
		without, code := impl.WithoutRests(d, p)
		same, sameCode := impl.SameSums(d, n, p, without)
		if code != impl.ErrNone || !same || sameCode != impl.ErrNone {
			t.Errorf("WithoutRests(%d, %v) = %v, %d, with SameSums: %v, %d", d, p, without, code, same, sameCode)
		}
		if len(without) < len(p) {
			shorter++
		}
		for name, do := range sumSeries {
			var c calls
			if c.checkEqual(t, "the "+name+" series", c.of(do(d, n, p)), c.of(do(d, n, without))) {
				held++
			}
		}
	})
	checkHeld(t, held)
	checkHeld(t, shorter)
}

func TestSeriesOfReversedSequencesAreReversals(t *testing.T) {
	for name, do := range sumSeries {
		held := 0
		eachSequencePair(14, func(_ *rand.Rand, d int64, n int64, a path, b path) {
			var c calls
			if c.checkEqual(t, "the reversal of the "+name+" series", c.of(do(d, n, reversedEntries(a))), c.of(impl.ReversalOf(c.of(do(d, n, a))))) {
				held++
			}
		})
		checkHeld(t, held)
	}
}

// Sums are the values of series, and those at letters the end of the path with the same steps.
func TestValuesOfSeriesAreSums(t *testing.T) {
	held := 0
	eachSequencePair(15, func(_ *rand.Rand, d int64, n int64, a path, b path) {
		var c calls
		strict, weak := c.of(impl.StrictSeries(d, n, a)), c.of(impl.WeakSeries(d, n, a))
		if c.code != impl.ErrNone {
			return
		}
		held++
		for _, w := range allWords(d, n) {
			x, code := impl.StrictSum(d, a, w)
			checkFraction(t, "StrictSum at "+w, fr(x, 1), code, coefficientIn(strict, w), impl.ErrNone)
			x, code = impl.WeakSum(d, a, w)
			checkFraction(t, "WeakSum at "+w, fr(x, 1), code, coefficientIn(weak, w), impl.ErrNone)
		}
		end, code := impl.EndOf(d, a)
		for i, number := range end {
			checkFraction(t, "the end", fr(number, 1), code, coefficientIn(strict, string(rune('0'+i))), impl.ErrNone)
		}
	})
	checkHeld(t, held)
}

func TestSameSumsAreThoseOfSeries(t *testing.T) {
	same, different := 0, 0
	eachSequencePair(16, func(r *rand.Rand, d int64, n int64, a path, b path) {
		for _, q := range []path{b, reversedEntries(a), withRests(r, slices.Clone(a))} {
			var c calls
			x, y := c.of(impl.StrictSeries(d, n, a)), c.of(impl.StrictSeries(d, n, q))
			if c.code != impl.ErrNone {
				continue
			}
			checkSame(t, d, n, a, q, sameSeries(x, y))
			if sameSeries(x, y) {
				same++
			} else {
				different++
			}
		}
	})
	checkHeld(t, min(same, different))
}

// sumOfPowerSums returns the sum of the power sums of compositions, each one times its number, and the first
// error.
func sumOfPowerSums(list []int64, compositions rowList, ways []int64) (int64, int64) {
	sum := int64(0)
	for i, parts := range compositions {
		value, code := impl.PowerSum(list, parts)
		if code != impl.ErrNone {
			return 0, code
		}
		sum += ways[i] * value
	}
	return sum, impl.ErrNone
}

// isTold reports whether PowerSum takes all of some compositions.
func isTold(compositions rowList) bool {
	return !slices.ContainsFunc(compositions, func(parts []int64) bool {
		return len(parts) > impl.MaxParts || slices.ContainsFunc(parts, func(part int64) bool { return part > 5 })
	})
}

func TestPowerSumsMultiplyByQuasiProducts(t *testing.T) {
	r := rand.New(rand.NewPCG(10, 17))
	held, negative := 0, 0
	for range 2000 {
		list := randomNumbers(r, r.IntN(impl.MaxSteps+1), []int64{1, 2, 5, 10}[r.IntN(4)])
		u, v := randomParts(r, r.IntN(4), 3), randomParts(r, r.IntN(4), 2)
		lists, ways, code := impl.QuasiProduct(u, v)
		if code != impl.ErrNone || !isTold(lists) {
			continue
		}
		x, xCode := impl.PowerSum(list, u)
		y, yCode := impl.PowerSum(list, v)
		sum, sumCode := sumOfPowerSums(list, lists, ways)
		if xCode != impl.ErrNone || yCode != impl.ErrNone || sumCode != impl.ErrNone {
			continue
		}
		if held++; sum != x*y {
			t.Errorf("of %v the power sums of %v and %v are %d and %d, and those of the quasi product have the sum %d", list, u, v, x, y, sum)
		}
		if sum < 0 {
			negative++
		}
	}
	checkHeld(t, held)
	checkHeld(t, negative)
}

// compositionsOf returns all lists of numbers of at least 1 with a sum.
func compositionsOf(sum int64) rowList {
	if sum == 0 {
		return rowList{nil}
	}
	var list rowList
	for first := int64(1); first <= sum; first++ {
		for _, rest := range compositionsOf(sum - first) {
			list = append(list, slices.Concat([]int64{first}, rest))
		}
	}
	return list
}

// For one letter, strict sums are power sums with the parts 1, and weak sums are those of all compositions with
// a sum, as equal places give powers.
func TestSumsOfOneLetterArePowerSums(t *testing.T) {
	r := rand.New(rand.NewPCG(10, 18))
	for range 300 {
		list := randomNumbers(r, r.IntN(impl.MaxSteps+1), []int64{1, 9, impl.MaxStep}[r.IntN(3)])
		for k := int64(0); k <= 5; k++ {
			w, all := strings.Repeat("0", int(k)), compositionsOf(k)
			strict, code := impl.StrictSum(1, ofOneLetter(1, 0, list...), w)
			power, powerCode := impl.PowerSum(list, slices.Repeat([]int64{1}, int(k)))
			weak, weakCode := impl.WeakSum(1, ofOneLetter(1, 0, list...), w)
			powers, powersCode := sumOfPowerSums(list, all, slices.Repeat([]int64{1}, len(all)))
			if code != impl.ErrNone || powerCode != impl.ErrNone || weakCode != impl.ErrNone || powersCode != impl.ErrNone || strict != power || weak != powers {
				t.Errorf("of %v the sums at %q are %d and %d, and the power sums %d and %d", list, w, strict, weak, power, powers)
			}
		}
	}
}

func TestQuasiProductsDoNotDependOnTheOrder(t *testing.T) {
	r := rand.New(rand.NewPCG(10, 19))
	for range 300 {
		u, v := randomParts(r, r.IntN(5), 5), randomParts(r, r.IntN(5), 5)
		lists, ways, code := impl.QuasiProduct(u, v)
		others, otherWays, otherCode := impl.QuasiProduct(v, u)
		if code != impl.ErrNone || otherCode != impl.ErrNone || !samePath(lists, others) || !slices.Equal(ways, otherWays) {
			t.Errorf("QuasiProduct(%v, %v) = %v, %v, %d, and turned %v, %v, %d", u, v, lists, ways, code, others, otherWays, otherCode)
		}
	}
}

func TestSumsAndDifferencesLeadBack(t *testing.T) {
	r := rand.New(rand.NewPCG(10, 20))
	for range 500 {
		// The sums have to be a list again, which has a number more, and none that is too great.
		list := randomNumbers(r, r.IntN(impl.MaxSteps), 9)
		sums, code := impl.SumsOf(list)
		differences, differencesCode := impl.DifferencesOf(sums)
		checkNumbers(t, "the differences of sums", differences, max(code, differencesCode), list)
		if len(list) == 0 {
			continue
		}
		differences, code = impl.DifferencesOf(list)
		sums, sumsCode := impl.SumsOf(differences)
		for i := range sums {
			sums[i] += list[0]
		}
		checkNumbers(t, "the sums of differences", sums, max(code, sumsCode), list)
	}
}
