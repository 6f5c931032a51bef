package tests

import (
	"math/big"
	"math/bits"
	"math/rand/v2"
	"slices"
	"testing"

	"loop.example/g01260/impl"
)

// sumOverPlaces returns the sum of all products of numbers for a word, from a place on. Each place is at
// least gap behind the one before.
func sumOverPlaces(p path, w string, from int, gap int) int64 {
	if w == "" {
		return 1
	}
	sum := int64(0)
	for i := from; i < len(p); i++ {
		if number := p[i][w[0]-'0']; number != 0 {
			sum += number * sumOverPlaces(p, w[1:], i+gap, gap)
		}
	}
	return sum
}

// gaps are those of strict and weak sums.
const (
	strictGap = 1
	weakGap   = 0
)

// sumsModel returns the model of a series of sums.
func sumsModel(d int64, n int64, p path, gap int) model {
	m := emptyModel(d, n)
	for _, w := range allWords(d, n) {
		m.add(w, big.NewRat(sumOverPlaces(p, w, 0, gap), 1))
	}
	return m
}

// eachSequence calls a function for sequences with small and great numbers, some of which have rests.
func eachSequence(seed uint64, times int, do func(r *rand.Rand, d int64, p path)) {
	r := rand.New(rand.NewPCG(10, seed))
	for range times {
		for d := int64(1); d <= impl.MaxLetter; d++ {
			for _, most := range []int64{0, 1, 7, 40, impl.MaxStep} {
				do(r, d, randomPath(r, d, r.IntN(impl.MaxSteps+1), most))
				do(r, d, withRests(r, windingPath(r, d, r.IntN(8), most)))
				do(r, d, risingPath(r, d, r.IntN(impl.MaxSteps+1), most))
			}
		}
	}
}

// withRests returns a sequence with some rests put in, as far as there is room.
func withRests(r *rand.Rand, p path) path {
	for len(p) > 0 && len(p) < impl.MaxSteps && r.IntN(3) > 0 {
		p = slices.Insert(p, r.IntN(len(p)+1), make([]int64, len(p[0])))
	}
	return p
}

func TestSumsFollowTheModel(t *testing.T) {
	eachSequence(1, 12, func(r *rand.Rand, d int64, p path) {
		words := allWords(d, 5)
		for range 12 {
			w := words[r.IntN(len(words))]
			got, code := impl.StrictSum(d, p, w)
			checkNumber(t, "StrictSum at "+w, got, code, sumOverPlaces(p, w, 0, strictGap))
			got, code = impl.WeakSum(d, p, w)
			checkNumber(t, "WeakSum at "+w, got, code, sumOverPlaces(p, w, 0, weakGap))
		}
	})
}

func TestSeriesOfSumsFollowTheModel(t *testing.T) {
	var strict, weak tally
	eachSequence(2, 10, func(r *rand.Rand, d int64, p path) {
		n := levelsOf(d) - r.Int64N(2)
		x, code := impl.StrictSeries(d, n, p)
		strict.check(t, "StrictSeries", x, code, sumsModel(d, n, p, strictGap))
		x, code = impl.WeakSeries(d, n, p)
		weak.check(t, "WeakSeries", x, code, sumsModel(d, n, p, weakGap))
	})
	for name, c := range map[string]tally{"StrictSeries": strict, "WeakSeries": weak} {
		if c.fit < 60 || c.tooLarge < 10 || c.onTheWay > 0 {
			t.Errorf("%s: %d results fit, %d do not, and %d only on the way", name, c.fit, c.tooLarge, c.onTheWay)
		}
	}
}

func TestSameSumsFollowTheModel(t *testing.T) {
	same, different := 0, 0
	eachSequence(3, 4, func(r *rand.Rand, d int64, p path) {
		n := r.Int64N(levelsOf(d)) + 1
		shuffled := slices.Clone(p)
		r.Shuffle(len(p), func(i int, k int) { shuffled[i], shuffled[k] = shuffled[k], shuffled[i] })
		for _, q := range []path{p, shuffled, withRests(r, slices.Clone(p)), reversedEntries(p), randomPath(r, d, len(p), 1)} {
			want := sumsModel(d, n, p, strictGap).isEqual(sumsModel(d, n, q, strictGap))
			checkSame(t, d, n, p, q, want)
			if want {
				same++
			} else {
				different++
			}
		}
	})
	if min(same, different) < 60 {
		t.Errorf("%d sums are the same, and %d are not", same, different)
	}
}

// isLimited reports whether a number is within the limit of power sums.
func isLimited(number *big.Int) bool {
	return number.CmpAbs(big.NewInt(greatestSum)) <= 0
}

// powerSumModel returns a power sum, and whether it and all that is found on the way are within the limit.
func powerSumModel(list []int64, parts []int64) (*big.Int, bool) {
	fits := true
	behind := make([]*big.Int, len(list)+1)
	for i := range behind {
		behind[i] = big.NewInt(1)
	}
	for k := len(parts) - 1; k >= 0; k-- {
		found := make([]*big.Int, len(list)+1)
		found[len(list)] = new(big.Int)
		for i := len(list) - 1; i >= 0; i-- {
			product := new(big.Int).Exp(big.NewInt(list[i]), big.NewInt(parts[k]), nil)
			product.Mul(product, behind[i+1])
			found[i] = new(big.Int).Add(product, found[i+1])
			fits = fits && isLimited(product) && isLimited(found[i])
		}
		behind = found
	}
	return behind[0], fits
}

// powersOverPlaces returns a power sum by its definition, from a place on.
func powersOverPlaces(list []int64, parts []int64) *big.Int {
	if len(parts) == 0 {
		return big.NewInt(1)
	}
	sum := new(big.Int)
	for i, number := range list {
		power := new(big.Int).Exp(big.NewInt(number), big.NewInt(parts[0]), nil)
		sum.Add(sum, power.Mul(power, powersOverPlaces(list[i+1:], parts[1:])))
	}
	return sum
}

// randomNumbers returns numbers of at most a size, some of which are 0, or of the greatest size.
func randomNumbers(r *rand.Rand, count int, most int64) []int64 {
	var list []int64
	for range count {
		list = append(list, []int64{r.Int64N(2*most+1) - most, r.Int64N(2*most+1) - most, 0, most, -most}[r.IntN(5)])
	}
	return list
}

// randomParts returns a composition.
func randomParts(r *rand.Rand, count int, most int64) []int64 {
	var parts []int64
	for range count {
		parts = append(parts, r.Int64N(most)+1)
	}
	return parts
}

func TestPowerSumsFollowTheModel(t *testing.T) {
	r := rand.New(rand.NewPCG(10, 4))
	fit, tooGreat, onTheWay := 0, 0, 0
	for range 20000 {
		list := randomNumbers(r, r.IntN(impl.MaxSteps+1), []int64{1, 3, 20, 60, impl.MaxStep}[r.IntN(5)])
		parts := randomParts(r, r.IntN(impl.MaxParts+1), 5)
		want, fits := powerSumModel(list, parts)
		if definition := powersOverPlaces(list, parts); definition.Cmp(want) != 0 {
			t.Fatalf("the models of %v and %v are %v and %v", list, parts, want, definition)
		}
		got, code := impl.PowerSum(list, parts)
		if fits {
			fit++
			checkNumber(t, "PowerSum", got, code, want.Int64())
			continue
		}
		if got != 0 || code != impl.ErrLimit {
			t.Errorf("PowerSum(%v, %v) = %d, %d", list, parts, got, code)
		}
		if isLimited(want) {
			onTheWay++
		} else {
			tooGreat++
		}
	}
	if min(fit, tooGreat, onTheWay) < 200 {
		t.Errorf("%d power sums fit, %d do not, and %d do not on the way alone", fit, tooGreat, onTheWay)
	}
}

// overlaid returns the composition that has the parts of u at the places that a mask tells, those of v at the
// places of another one, and sums at the places of both.
func overlaid(places int, u []int64, uMask uint, v []int64, vMask uint) []int64 {
	parts := make([]int64, places)
	for i := range parts {
		if uMask>>i&1 == 1 {
			parts[i], u = parts[i]+u[0], u[1:]
		}
		if vMask>>i&1 == 1 {
			parts[i], v = parts[i]+v[0], v[1:]
		}
	}
	return parts
}

// quasiModel returns a quasi product as all ways to lay two compositions over each other, without an empty
// place: texts of bytes for the compositions, and their numbers.
func quasiModel(u []int64, v []int64) map[string]int64 {
	ways := map[string]int64{}
	for places := max(len(u), len(v)); places <= len(u)+len(v); places++ {
		all := uint(1)<<places - 1
		for uMask := range all + 1 {
			if bits.OnesCount(uMask) != len(u) {
				continue
			}
			for vMask := range all + 1 {
				if bits.OnesCount(vMask) == len(v) && uMask|vMask == all {
					ways[bytesOf(overlaid(places, u, uMask, v, vMask))]++
				}
			}
		}
	}
	return ways
}

// bytesOf returns small numbers as the bytes of a text, which is ordered as they are.
func bytesOf(parts []int64) string {
	var text []byte
	for _, part := range parts {
		text = append(text, byte(part))
	}
	return string(text)
}

func TestQuasiProductsFollowTheModel(t *testing.T) {
	r := rand.New(rand.NewPCG(10, 5))
	several := 0
	for range 600 {
		most := []int64{1, 2, 5}[r.IntN(3)]
		u, v := randomParts(r, r.IntN(5), most), randomParts(r, r.IntN(5), most)
		lists, ways, code := impl.QuasiProduct(u, v)
		want := quasiModel(u, v)
		if code != impl.ErrNone || len(lists) != len(want) || len(ways) != len(want) {
			t.Fatalf("QuasiProduct(%v, %v) = %v, %v, %d, want %v", u, v, lists, ways, code, want)
		}
		for i, parts := range lists {
			if ways[i] != want[bytesOf(parts)] || i > 0 && bytesOf(lists[i-1]) >= bytesOf(parts) {
				t.Errorf("QuasiProduct(%v, %v) = %v, %v, want %v", u, v, lists, ways, want)
			}
			if ways[i] > 1 {
				several++
			}
		}
	}
	if several < 500 {
		t.Errorf("only %d compositions arise in several ways", several)
	}
}

func TestPlainFunctionsOfSequencesFollowTheModel(t *testing.T) {
	r := rand.New(rand.NewPCG(10, 6))
	for range 1000 {
		list := randomNumbers(r, 1+r.IntN(impl.MaxSteps), impl.MaxStep)
		differences, code := impl.DifferencesOf(list)
		if code != impl.ErrNone || len(differences) != len(list)-1 {
			t.Fatalf("DifferencesOf(%v) = %v, %d", list, differences, code)
		}
		for i, number := range differences {
			if list[i]+number != list[i+1] {
				t.Errorf("DifferencesOf(%v) = %v", list, differences)
			}
		}
		sums, code := impl.SumsOf(list)
		checkNumbers(t, "the ends of SumsOf", []int64{sums[0], sums[len(sums)-1]}, code, []int64{0, sumOverPlaces(ofOneLetter(1, 0, list...), "0", 0, strictGap)})
		for i, number := range list {
			if len(sums) != len(list)+1 || sums[i+1]-sums[i] != number {
				t.Errorf("SumsOf(%v) = %v", list, sums)
			}
		}
	}
	eachSequence(7, 12, func(_ *rand.Rand, d int64, p path) {
		var want path
		for _, entry := range p {
			if !isStill(entry) {
				want = append(want, entry)
			}
		}
		got, code := impl.WithoutRests(d, p)
		checkPath(t, "WithoutRests", got, code, want)
	})
}
