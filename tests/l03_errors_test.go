package tests

import (
	"math"
	"strings"
	"testing"

	"loop.example/g01260/impl"
)

// notWords are texts that are no words for any letters, however long words may be.
var notWords = []string{"a", " ", "/", ":", "3", "9", "-0", "+", "01 ", "0\n", "\x00", "\xff", "\u0660", "0,1"}

func TestShuffleWordsErrors(t *testing.T) {
	check := func(d int64, n int64, v string, w string) {
		t.Helper()
		for _, pair := range [][2]string{{v, w}, {w, v}} {
			x, code := impl.ShuffleWords(d, n, pair[0], pair[1])
			checkSeriesError(t, "ShuffleWords "+pair[0]+" and "+pair[1], x, code, impl.ErrRange)
		}
	}
	for _, d := range badLetters() {
		for _, n := range append([]int64{1, 2, 4, 5}, badLevels...) {
			check(d, n, "", "")
			check(d, n, "0", "a")
		}
	}
	for d := int64(1); d <= impl.MaxLetter; d++ {
		for _, n := range badLevels {
			check(d, n, "", "")
		}
	}
	check(3, 5, "", "")
	check(3, 5, "0", "1")
	eachShape(func(d int64, n int64) {
		tooLong := strings.Repeat("0", int(n)+1)
		check(d, n, tooLong, "")
		check(d, n, tooLong, "0")
		check(d, n, tooLong, tooLong)
		check(d, n, strings.Repeat("0", 1000), "")
		check(d, n, string(rune('0'+d)), "")
		check(d, n, string(rune('0'+d)), "0")
		for _, bad := range notWords {
			check(d, n, bad, "")
			check(d, n, bad, strings.Repeat("0", int(n)))
		}
	})
	check(2, 2, "02", "")
	check(1, 5, "00001", "")
}

func TestShuffleNumberErrors(t *testing.T) {
	check := func(d int64, v string, w string, u string) {
		t.Helper()
		for _, c := range [][3]string{{v, w, u}, {v, u, w}, {w, v, u}, {w, u, v}, {u, v, w}, {u, w, v}} {
			if number, code := impl.ShuffleNumber(d, c[0], c[1], c[2]); number != 0 || code != impl.ErrRange {
				t.Errorf("ShuffleNumber(%d, %q) = %d, %d", d, c, number, code)
			}
		}
	}
	for _, d := range badLetters() {
		check(d, "", "", "")
		check(d, "0", "", "0")
		check(d, "a", "", "0")
	}
	for d := int64(1); d <= impl.MaxLetter; d++ {
		tooLong := strings.Repeat("0", impl.MaxShuffle+1)
		check(d, tooLong, "", "")
		check(d, tooLong, tooLong, "")
		check(d, tooLong, tooLong, tooLong)
		check(d, strings.Repeat("0", 1000), "", "")
		check(d, string(rune('0'+d)), "", "")
		check(d, string(rune('0'+d)), "", string(rune('0'+d)))
		for _, bad := range notWords {
			check(d, bad, "", "")
			check(d, bad, "0", "0")
			check(d, bad, bad, bad)
		}
	}
}

// shuffleFunctions are those of two series that are alike.
var shuffleFunctions = map[string]func(x impl.Series, y impl.Series) (impl.Series, int64){
	"ShuffleSeries": impl.ShuffleSeries,
	"HalfShuffle":   impl.HalfShuffle,
}

func TestShuffleErrors(t *testing.T) {
	for name, do := range shuffleFunctions {
		checkPairErrors(t, name, do)
	}
}

func TestPairSeriesErrors(t *testing.T) {
	large := seriesOf(t, 2, 2, "1000000000/1*+1000000000/1*0")
	check := func(name string, x impl.Series, y impl.Series, want int64) {
		t.Helper()
		a, code := impl.PairSeries(x, y)
		checkFraction(t, "PairSeries, "+name, a, code, impl.Fraction{}, want)
	}
	for what, bad := range notSeries() {
		for _, other := range []impl.Series{large, seriesOf(t, 1, 5, "0"), {}, bad} {
			check(what, bad, other, impl.ErrInvalid)
			check(what, other, bad, impl.ErrInvalid)
		}
	}
	for _, pair := range unlikePairs(t) {
		check("not alike", pair[0], pair[1], impl.ErrRange)
	}
	check("large", large, large, impl.ErrLimit)
}

func TestShufflePowerErrors(t *testing.T) {
	badNumbers := []int64{math.MinInt64, -8, -1, impl.MaxShuffle + 1, impl.MaxPower, math.MaxInt64}
	for what, bad := range notSeries() {
		for _, k := range append([]int64{0, 1, impl.MaxShuffle}, badNumbers...) {
			z, code := impl.ShufflePower(bad, k)
			checkSeriesError(t, "ShufflePower, "+what, z, code, impl.ErrInvalid)
		}
	}
	for _, text := range []string{"0", "1/1*", "1/2*0", "1000000000/1*"} {
		for _, k := range badNumbers {
			z, code := impl.ShufflePower(seriesOf(t, 2, 2, text), k)
			checkSeriesError(t, "ShufflePower of "+text, z, code, impl.ErrRange)
		}
	}
	z, code := impl.ShufflePower(seriesOf(t, 2, 2, "1000000000/1*"), impl.MaxShuffle)
	checkSeriesError(t, "ShufflePower", z, code, impl.ErrLimit)
}

func TestCutsOfWordErrors(t *testing.T) {
	check := func(d int64, w string) {
		t.Helper()
		if cuts, code := impl.CutsOfWord(d, w); len(cuts) != 0 || code != impl.ErrRange {
			t.Errorf("CutsOfWord(%d, %q) = %q, %d", d, w, cuts, code)
		}
	}
	for _, d := range badLetters() {
		check(d, "")
		check(d, "0")
		check(d, "a")
	}
	for d := int64(1); d <= impl.MaxLetter; d++ {
		check(d, strings.Repeat("0", impl.MaxShuffle+1))
		check(d, strings.Repeat("0", 1000))
		check(d, string(rune('0'+d)))
		check(d, "0000000"+string(rune('0'+d)))
		for _, bad := range notWords {
			check(d, bad)
		}
	}
}

func TestValueAtShuffleErrors(t *testing.T) {
	check := func(name string, x impl.Series, v string, w string, want int64) {
		t.Helper()
		for _, pair := range [][2]string{{v, w}, {w, v}} {
			a, code := impl.ValueAtShuffle(x, pair[0], pair[1])
			checkFraction(t, "ValueAtShuffle at "+pair[0]+" and "+pair[1]+", "+name, a, code, impl.Fraction{}, want)
		}
	}
	for what, bad := range notSeries() {
		for _, w := range []string{"", "0", "a", "3", "000000"} {
			check(what, bad, w, "", impl.ErrInvalid)
			check(what, bad, w, "0", impl.ErrInvalid)
		}
	}
	eachShape(func(d int64, n int64) {
		// What is too long or no word is told ahead of values that do not fit.
		x := oneTerm(d, n, strings.Repeat("0", int(n)), fr(impl.MaxPart, 1))
		for k := range int(n) + 2 {
			check("too long", x, strings.Repeat("0", k), strings.Repeat("0", int(n)+1-k), impl.ErrRange)
		}
		check("too long", x, strings.Repeat("0", int(n)), strings.Repeat("0", int(n)), impl.ErrRange)
		check("too long", x, strings.Repeat("0", 1000), "", impl.ErrRange)
		check("no word", x, string(rune('0'+d)), "", impl.ErrRange)
		check("no word", x, string(rune('0'+d)), strings.Repeat("0", int(n)-1), impl.ErrRange)
		for _, bad := range notWords {
			check("no word", x, bad, "", impl.ErrRange)
			check("no word", x, bad, "0", impl.ErrRange)
		}
		if n > 1 {
			check("too large", x, "0", strings.Repeat("0", int(n)-1), impl.ErrLimit)
		}
	})
}

func TestTestsOfWhatIsNoSeries(t *testing.T) {
	for name, do := range map[string]func(x impl.Series) (bool, int64){
		"IsGroupLike": impl.IsGroupLike, "IsLieSeries": impl.IsLieSeries,
	} {
		for what, bad := range notSeries() {
			for _, first := range []impl.Fraction{{}, fr(1, 1), fr(2, 1)} {
				x := bad
				if first != (impl.Fraction{}) {
					// ErrInvalid is told whatever the constant would be.
					x.Terms = append([]impl.Term{{Word: "", Value: first}, {Word: "", Value: first}}, x.Terms...)
				}
				if is, code := do(x); is || code != impl.ErrInvalid {
					t.Errorf("%s, %s: %v, %d", name, what, is, code)
				}
			}
		}
	}
}
