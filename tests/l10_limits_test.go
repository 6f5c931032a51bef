package tests

import (
	"math/big"
	"slices"
	"testing"

	"loop.example/g01260/impl"
)

// sumLimit is a sequence whose series with a level has a value at a word, all other values being small
// enough.
type sumLimit struct {
	d, n  int64
	p     path
	word  string
	value int64
}

// turnedSigns returns a sequence with the opposite numbers of the letter i.
func turnedSigns(p path, i int64) path {
	var turned path
	for _, entry := range p {
		entry = slices.Clone(entry)
		entry[i] = -entry[i]
		turned = append(turned, entry)
	}
	return turned
}

// reversedEntries returns a sequence with its entries from the last one on.
func reversedEntries(p path) path {
	reversed := slices.Clone(p)
	slices.Reverse(reversed)
	return reversed
}

// reversedText returns a word from its last letter on.
func reversedText(w string) string {
	letters := []byte(w)
	slices.Reverse(letters)
	return string(letters)
}

// checkSumLimit requires that only the values in the limit fit. The level below does without the word.
func checkSumLimit(t *testing.T, name string, do func(d int64, n int64, p path) (impl.Series, int64), c sumLimit) {
	t.Helper()
	x, code := do(c.d, c.n, c.p)
	if max(c.value, -c.value) > impl.MaxPart {
		checkSeriesError(t, name, x, code, impl.ErrLimit)
	} else if code != impl.ErrNone || coefficientIn(x, c.word) != fr(c.value, 1) {
		t.Errorf("%s of %v = %v, %d, want %d at %s", name, c.p, x, code, c.value, c.word)
	}
	below, code := do(c.d, c.n-1, c.p)
	if code != impl.ErrNone || len(below.Terms) < 2 {
		t.Errorf("%s of %v at the level %d = %v, %d", name, c.p, c.n-1, below, code)
	}
}

// checkSumLimits looks at sequences as they are, at their opposites, and from behind.
func checkSumLimits(t *testing.T, name string, do func(d int64, n int64, p path) (impl.Series, int64), cases []sumLimit) {
	t.Helper()
	for _, c := range cases {
		checkSumLimit(t, name, do, c)
		checkSumLimit(t, name, do, sumLimit{c.d, c.n, turnedSigns(c.p, c.d-1), c.word, -c.value})
		checkSumLimit(t, name, do, sumLimit{c.d, c.n, reversedEntries(c.p), reversedText(c.word), c.value})
	}
}

func TestStrictSeriesAtTheLimit(t *testing.T) {
	checkSumLimits(t, "StrictSeries", impl.StrictSeries, []sumLimit{
		{1, 5, path{{100}, {100}, {100}, {100}, {10}}, "00000", 1000000000},
		{1, 5, path{{50}, {-50}, {50}, {-100}, {80}}, "00000", 1000000000},
		{2, 5, path{{100, 0}, {100, 0}, {100, 0}, {100, 0}, {0, 10}}, "00001", 1000000000},
		{1, 5, path{{100}, {100}, {100}, {100}, {11}}, "00000", 1100000000},
		{2, 4, path{{81, 0}, {66, 0}, {80, 0}, {45, 0}, {83, 0}, {96, 0}, {0, 67}, {-44, 0}, {0, 98}}, "0001", 1000000001},
		{2, 4, path{{74, 0}, {61, 0}, {43, 0}, {26, 0}, {63, 0}, {0, 91}, {54, 0}, {53, 0}, {75, 0}, {0, 91}}, "0001", 1000000001},
	})
}

func TestWeakSeriesAtTheLimit(t *testing.T) {
	checkSumLimits(t, "WeakSeries", impl.WeakSeries, []sumLimit{
		{2, 4, path{{50, 0}, {97, 0}, {71, 0}, {0, 87}, {69, 0}, {0, 85}}, "0001", 1000000000},
		{2, 4, path{{54, 0}, {78, 0}, {79, 0}, {0, 71}, {21, 0}, {65, 0}, {0, 96}}, "0001", 1000000001},
		{1, 5, path{{63}}, "00000", 992436543},
		{1, 5, path{{64}}, "00000", 1073741824},
	})
}

// Sums of series are held to another limit than sums alone.
func TestSeriesOfGreatSums(t *testing.T) {
	for d := int64(1); d <= impl.MaxLetter; d++ {
		for _, number := range []int64{impl.MaxStep, -impl.MaxStep} {
			p := repeated(impl.MaxSteps, flatStep(d, number)...)
			for n := int64(1); n <= levelsOf(d); n++ {
				for name, do := range map[string]func(d int64, n int64, p path) (impl.Series, int64){"StrictSeries": impl.StrictSeries, "WeakSeries": impl.WeakSeries} {
					x, code := do(d, n, p)
					if n >= 4 {
						checkSeriesError(t, name, x, code, impl.ErrLimit)
					} else if code != impl.ErrNone || len(x.Terms) != len(allWords(d, n)) {
						t.Errorf("%s(%d, %d, %v) = %v, %d", name, d, n, p, x, code)
					}
				}
			}
		}
	}
}

// A value that does not fit is met at whichever word it stands.
func TestSeriesWithOneGreatSum(t *testing.T) {
	for _, w := range allWords(2, 5) {
		var p path
		for i := range w {
			entry := flatStep(2, 0)
			entry[w[i]-'0'] = impl.MaxStep
			p = append(p, entry)
		}
		x, code := impl.StrictSeries(2, 5, p)
		if len(w) == 5 {
			checkSeriesError(t, "StrictSeries at "+w, x, code, impl.ErrLimit)
		} else if code != impl.ErrNone || coefficientIn(x, w).Num < 1 {
			t.Errorf("StrictSeries of %v = %v, %d", p, x, code)
		}
	}
}

// listAndParts are a list and a composition.
type listAndParts struct{ list, parts []int64 }

// greatestSum is the limit of power sums.
const greatestSum = 1000000000000000

// checkTooGreat requires ErrLimit of power sums, the values of which are as told.
func checkTooGreat(t *testing.T, isTold func(value *big.Int) bool, cases []listAndParts) {
	t.Helper()
	for _, c := range cases {
		if value, _ := powerSumModel(c.list, c.parts); !isTold(value) {
			t.Errorf("the power sum of %v and %v would be %v", c.list, c.parts, value)
		}
		if got, code := impl.PowerSum(c.list, c.parts); got != 0 || code != impl.ErrLimit {
			t.Errorf("PowerSum(%v, %v) = %d, %d", c.list, c.parts, got, code)
		}
	}
}

func TestPowerSumsAtTheLimit(t *testing.T) {
	checkPowerSums(t, []powerSumCase{
		{[]int64{100, 10}, []int64{5, 5}, greatestSum}, {[]int64{-100, 10}, []int64{5, 5}, -greatestSum}, {[]int64{100, -10}, []int64{5, 5}, -greatestSum},
		{[]int64{50, 20}, []int64{5, 5}, greatestSum}, {[]int64{10, 10, 100, 100}, []int64{1, 4, 2, 3}, greatestSum}, {[]int64{-10, 100, 10}, []int64{4, 4, 3}, greatestSum},
		{[]int64{-10, 10, 100}, []int64{3, 4, 4}, -greatestSum}, {[]int64{0, 100, 0, 0, 10, 0}, []int64{5, 5}, greatestSum},
		{[]int64{50, 0, 1, -1, 0, 20}, []int64{5, 5}, greatestSum - 1}, {[]int64{50, 20, 1, 0, -1}, []int64{5, 5}, greatestSum - 1},
		// On the way there is nothing greater.
		{[]int64{10, 100, 0}, []int64{5, 5, 5}, 0},
	})
	isGreaterByOne := func(value *big.Int) bool { return value.CmpAbs(big.NewInt(greatestSum+1)) == 0 }
	checkTooGreat(t, isGreaterByOne, []listAndParts{
		{[]int64{-100, 10, 1, -1}, []int64{5, 5}}, {[]int64{10, -1, -100, 1}, []int64{5, 5}}, {[]int64{-1, 1, 50, 0, -20}, []int64{5, 5}},
		{[]int64{100, 10, -1, 1, -1, 1, 1, -1, 0}, []int64{5, 5, 2, 3}}, {[]int64{-100, 10, 1, -1, -1, 1, 1, -1}, []int64{5, 5, 2, 5}},
	})
}

func TestPowerSumsThatAreTooGreat(t *testing.T) {
	isTooGreat := func(value *big.Int) bool { return !isLimited(value) }
	checkTooGreat(t, isTooGreat, []listAndParts{
		{[]int64{100, 11}, []int64{5, 5}}, {[]int64{100, 100}, []int64{5, 5}}, {[]int64{-100, 100}, []int64{5, 5}}, {[]int64{100, 100, 100}, []int64{2, 3, 4}},
		{slices.Repeat([]int64{100}, impl.MaxParts), slices.Repeat([]int64{2}, impl.MaxParts)}, {slices.Repeat([]int64{100}, impl.MaxParts), slices.Repeat([]int64{5}, impl.MaxParts)},
		{slices.Repeat([]int64{100}, impl.MaxSteps), slices.Repeat([]int64{5}, impl.MaxParts)}, {slices.Repeat([]int64{-100}, impl.MaxSteps), slices.Repeat([]int64{5}, impl.MaxParts)},
		// Products that would be 0 as numbers of 64 bits.
		{[]int64{64, 64, 64}, []int64{5, 1, 5}}, {[]int64{64, -64, 64}, []int64{5, 2, 5}}, {[]int64{-64, 64, 0, 64}, []int64{5, 2, 5}},
	})
}

func TestPowerSumsThatAreTooGreatOnTheWay(t *testing.T) {
	checkTooGreat(t, isLimited, []listAndParts{
		// What is found at a place is too great by one, and a place ahead would lead back.
		{[]int64{-1, -100, 10, 1, -1}, []int64{5, 5}},
		// A product is too great, but not what is found with it.
		{[]int64{1, -10, -100, -1}, []int64{5, 5}}, {[]int64{-1, 20, 50, 1}, []int64{5, 5}},
		// What is found for a part, or its product, is too great at a place that leaves none for the parts ahead.
		{[]int64{1, 100, 10}, []int64{4, 5, 5}}, {[]int64{1, 40, 25, -5}, []int64{1, 5, 3, 4}}, {[]int64{100, 100}, []int64{1, 5, 5}},
		{[]int64{0, 1, 100, 100, 0}, []int64{1, 1, 1, 5, 5}}, {[]int64{100, 100, 0, 0}, []int64{5, 5, 5}}, {[]int64{100, -100, 0, 10}, []int64{2, 3, 5}},
		{[]int64{-10, 10, 50, 2}, []int64{2, 3, 5, 5}},
		// What is too great would be multiplied by 0.
		{[]int64{0, 100, 11}, []int64{1, 5, 5}}, {[]int64{0, 0, 0, 100, 100}, []int64{1, 5, 5}},
	})
}

// These are not too great on the way that the document tells, but would be from the first place on, or from
// the first part on.
func TestPowerSumsThatAreTooGreatOnAnotherWay(t *testing.T) {
	checkPowerSums(t, []powerSumCase{
		{[]int64{-1, -10, -100, 1}, []int64{5, 5}, greatestSum - 1},
		{[]int64{100, 100, 0, 0, 0}, []int64{5, 5, 1}, 0},
	})
}
