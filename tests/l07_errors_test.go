package tests

import (
	"math"
	"strings"
	"testing"

	"loop.example/g01260/impl"
)

// largeSeries is a series of which most maps make one that does not fit.
func largeSeries(d int64, n int64) impl.Series {
	x := impl.Series{Letters: d, Level: n}
	for _, w := range allWords(d, n) {
		x.Terms = append(x.Terms, impl.Term{Word: w, Value: fr(impl.MaxPart, 1)})
	}
	return x
}

// What is no series is told ahead of what is no map, and of all other errors.
func TestMapsOfWhatIsNoSeries(t *testing.T) {
	for what, bad := range notSeries() {
		size := max(0, min(bad.Letters, 4))
		for _, m := range []rowList{nil, {}, {{1}}, flatRows(size, size, 1), flatRows(size, 2, 100), flatRows(size, size, impl.MaxMapped+1)} {
			for _, e := range append([]int64{1, 2, 3}, badLetters()...) {
				x, code := impl.MapSeries(bad, e, m)
				checkSeriesError(t, "MapSeries, "+what, x, code, impl.ErrInvalid)
			}
			if got := equalOutcome(impl.IsUnchanged(bad, m)); got != (outcome{impl.ErrInvalid, true}) {
				t.Errorf("IsUnchanged, %s: %v", what, got)
			}
		}
		for _, letters := range [][]int64{nil, {}, {0}, {0, 1}, {1, 0}, {0, 1, 2}, {0, 0}, {-1}, {4, 5}} {
			x, code := impl.ExchangeLetters(bad, letters)
			checkSeriesError(t, "ExchangeLetters, "+what, x, code, impl.ErrInvalid)
		}
		for _, w := range append([]string{"", "0", "01", "00", "000000"}, notWords...) {
			for name, do := range textFunctions {
				x, code := do(bad, w)
				checkSeriesError(t, name+", "+what, x, code, impl.ErrInvalid)
			}
		}
		if got := pathOutcome(impl.DegreesOf(bad)); got != (outcome{impl.ErrInvalid, true}) {
			t.Errorf("DegreesOf, %s: %v", what, got)
		}
	}
}

// textFunctions are those of a series and a text.
var textFunctions = map[string]func(x impl.Series, w string) (impl.Series, int64){
	"WithoutBeginning": impl.WithoutBeginning,
	"WithoutEnd":       impl.WithoutEnd,
	"KeepLetters":      impl.KeepLetters,
}

// What is no map is told ahead of what does not fit.
func TestSeriesByWhatIsNoMap(t *testing.T) {
	for _, bad := range notMaps() {
		if bad.d < 1 || bad.d > impl.MaxLetter {
			continue
		}
		for n := int64(1); n <= levelsOf(bad.d); n++ {
			for _, x := range []impl.Series{{Letters: bad.d, Level: n}, largeSeries(bad.d, n)} {
				got, code := impl.MapSeries(x, bad.e, bad.rows)
				checkSeriesError(t, "MapSeries, "+bad.name, got, code, impl.ErrRange)
				if bad.e != bad.d {
					continue
				}
				if got := equalOutcome(impl.IsUnchanged(x, bad.rows)); got != (outcome{impl.ErrRange, true}) {
					t.Errorf("IsUnchanged, %s: %v", bad.name, got)
				}
			}
		}
	}
}

// Maps between other numbers of letters than are asked for are none.
func TestSeriesByMapsOfOtherLetters(t *testing.T) {
	eachPair(func(d int64, e int64) {
		m := flatRows(d, e, 1)
		for letters := int64(1); letters <= impl.MaxLetter; letters++ {
			x := impl.Series{Letters: letters, Level: 2}
			for to := int64(1); to <= impl.MaxLetter; to++ {
				want := outcome{impl.ErrRange, true}
				if letters == d && to == e {
					want = outcome{impl.ErrNone, false}
				}
				if got := seriesOutcome(impl.MapSeries(x, to, m)); got != want {
					t.Errorf("MapSeries of %v to %d letters by %v: %v", x, to, m, got)
				}
			}
			want := outcome{impl.ErrRange, true}
			if letters == d && letters == e {
				want = outcome{impl.ErrNone, false}
			}
			if got := equalOutcome(impl.IsUnchanged(x, m)); got != want {
				t.Errorf("IsUnchanged of %v by %v: %v", x, m, got)
			}
		}
	})
}

// A series for 3 letters may not have the Level 5.
func TestMapsToThreeLettersAtTheHighestLevel(t *testing.T) {
	for d := int64(1); d <= 2; d++ {
		for _, x := range []impl.Series{{Letters: d, Level: 5}, unitOf(d, 5), largeSeries(d, 5)} {
			for _, number := range []int64{0, 1, impl.MaxMapped} {
				got, code := impl.MapSeries(x, 3, flatRows(d, 3, number))
				checkSeriesError(t, "MapSeries", got, code, impl.ErrRange)
			}
		}
		for n := int64(1); n <= 4; n++ {
			got, code := impl.MapSeries(unitOf(d, n), 3, flatRows(d, 3, 1))
			checkSeries(t, "MapSeries", got, code, 3, n, "1/1*")
		}
		got, code := impl.MapSeries(unitOf(d, 5), 2, flatRows(d, 2, 1))
		checkSeries(t, "MapSeries", got, code, 2, 5, "1/1*")
	}
	got, code := impl.MapSeries(unitOf(3, 4), 3, flatRows(3, 3, 1))
	checkSeries(t, "MapSeries", got, code, 3, 4, "1/1*")
}

// What is no path is told ahead of what is no map.
func TestMapsOfWhatIsNoPath(t *testing.T) {
	for _, bad := range notPaths() {
		size := max(0, min(bad.letters, 4))
		for _, e := range append([]int64{1, 2, 3}, badLetters()...) {
			for _, m := range []rowList{nil, flatRows(size, max(0, min(e, 4)), 1), flatRows(size, 2, impl.MaxMapped+1), {{1}, {}}} {
				if got := pathOutcome(impl.MapPath(bad.letters, bad.path, e, m)); got != (outcome{impl.ErrInvalid, true}) {
					t.Errorf("MapPath(%d, %v, %d, %v), %s: %v", bad.letters, bad.path, e, m, bad.name, got)
				}
			}
		}
	}
}

// What is no map is told ahead of steps that become too great.
func TestPathsByWhatIsNoMap(t *testing.T) {
	for _, bad := range notMaps() {
		if bad.d < 1 || bad.d > impl.MaxLetter {
			continue
		}
		for _, p := range samplePaths(bad.d) {
			if got := pathOutcome(impl.MapPath(bad.d, p, bad.e, bad.rows)); got != (outcome{impl.ErrRange, true}) {
				t.Errorf("MapPath(%d, %v, %d, %v), %s: %v", bad.d, p, bad.e, bad.rows, bad.name, got)
			}
		}
	}
	eachPair(func(d int64, e int64) {
		if got := pathOutcome(impl.MapPath(d, repeated(2, flatStep(d, 100)...), e, flatRows(d, e, 2))); got != (outcome{impl.ErrLimit, true}) {
			t.Errorf("MapPath(%d, %d) of large steps: %v", d, e, got)
		}
	})
}

func TestTransposedMapsOfWhatIsNoMap(t *testing.T) {
	for _, bad := range notMaps() {
		if got := pathOutcome(impl.TransposeMap(bad.d, bad.e, bad.rows)); got != (outcome{impl.ErrRange, true}) {
			t.Errorf("TransposeMap(%d, %d, %v), %s: %v", bad.d, bad.e, bad.rows, bad.name, got)
		}
	}
}

// What is no map is told ahead of compositions that are none, whichever of both it is.
func TestCompositionsOfWhatIsNoMap(t *testing.T) {
	for _, bad := range notMaps() {
		for _, f := range append([]int64{1, 2, 3}, badLetters()...) {
			size, e, d := max(0, min(f, 4)), max(0, min(bad.e, 4)), max(0, min(bad.d, 4))
			for _, number := range []int64{0, impl.MaxMapped} {
				if got := pathOutcome(impl.ComposeMaps(bad.d, bad.e, f, bad.rows, flatRows(e, size, number))); got != (outcome{impl.ErrRange, true}) {
					t.Errorf("ComposeMaps(%d, %d, %d), first %v, %s: %v", bad.d, bad.e, f, bad.rows, bad.name, got)
				}
				if got := pathOutcome(impl.ComposeMaps(f, bad.d, bad.e, flatRows(size, d, number), bad.rows)); got != (outcome{impl.ErrRange, true}) {
					t.Errorf("ComposeMaps(%d, %d, %d), second %v, %s: %v", f, bad.d, bad.e, bad.rows, bad.name, got)
				}
			}
		}
	}
	eachPair(func(d int64, e int64) {
		for _, bad := range badLetters() {
			for _, letters := range [][3]int64{{bad, d, e}, {d, bad, e}, {d, e, bad}} {
				got := pathOutcome(impl.ComposeMaps(letters[0], letters[1], letters[2], flatRows(d, e, 1), flatRows(e, d, 1)))
				if got != (outcome{impl.ErrRange, true}) {
					t.Errorf("ComposeMaps of %v letters: %v", letters, got)
				}
			}
		}
	})
}

// The letters in the middle have to be the same for both maps.
func TestCompositionsOfMapsThatDoNotMeet(t *testing.T) {
	eachPair(func(d int64, e int64) {
		eachPair(func(from int64, f int64) {
			want := outcome{impl.ErrRange, true}
			if from == e {
				want = outcome{impl.ErrNone, false}
			}
			for _, middle := range []int64{e, from} {
				if got := pathOutcome(impl.ComposeMaps(d, middle, f, flatRows(d, e, 1), flatRows(from, f, 1))); got != want {
					t.Errorf("ComposeMaps(%d, %d, %d) of a map to %d and one from %d: %v", d, middle, f, e, from, got)
				}
			}
		})
	})
}

func TestListsOfLettersThatAreRefused(t *testing.T) {
	for d, lists := range map[int64][][]int64{
		1: {nil, {}, {1}, {-1}, {2}, {0, 0}, {0, 1}, {0, 0, 0}, {math.MaxInt64}, {math.MinInt64}},
		2: {nil, {}, {0}, {1}, {0, 0}, {1, 1}, {0, 2}, {2, 0}, {1, 2}, {-1, 0}, {1, -1}, {0, 1, 2}, {1, 0, 1}, {0, 1, 0, 1},
			{math.MaxInt64, 0}, {1, math.MinInt64}, {48, 49}},
		3: {nil, {}, {0}, {0, 1}, {2, 1}, {0, 0, 1}, {0, 1, 1}, {2, 1, 2}, {2, 2, 2}, {0, 1, 3}, {3, 1, 0}, {1, 2, 3}, {-1, 0, 1},
			{0, 1, 2, 3}, {0, 1, 2, 0}, {0, 1, 2, 0, 1, 2}, {0, math.MaxInt64, 1}, {2, 1, math.MinInt64}},
	} {
		for n := int64(1); n <= levelsOf(d); n++ {
			for _, letters := range append(lists, flatStep(1000, 0), flatStep(1000, 1)) {
				for _, x := range []impl.Series{{Letters: d, Level: n}, unitOf(d, n), largeSeries(d, n)} {
					got, code := impl.ExchangeLetters(x, letters)
					checkSeriesError(t, "ExchangeLetters", got, code, impl.ErrRange)
				}
			}
		}
	}
}

func TestBeginningsAndEndsThatAreRefused(t *testing.T) {
	eachShape(func(d int64, n int64) {
		behind, zeros := string(rune('0'+d)), strings.Repeat("0", int(n))
		texts := append([]string{behind, "0" + behind, behind + "0", zeros + "0", zeros + zeros, strings.Repeat("0", 100000)}, notWords...)
		for _, x := range []impl.Series{{Letters: d, Level: n}, unitOf(d, n), largeSeries(d, n)} {
			for _, u := range texts {
				got, code := impl.WithoutBeginning(x, u)
				checkSeriesError(t, "WithoutBeginning "+u[:min(len(u), 9)], got, code, impl.ErrRange)
				got, code = impl.WithoutEnd(x, u)
				checkSeriesError(t, "WithoutEnd "+u[:min(len(u), 9)], got, code, impl.ErrRange)
			}
			for _, u := range []string{"", "0", zeros, zeros[1:] + string(rune('0'+d-1))} {
				if got := seriesOutcome(impl.WithoutBeginning(x, u)); got != (outcome{impl.ErrNone, false}) {
					t.Errorf("WithoutBeginning %q of %v: %v", u, x, got)
				}
				if got := seriesOutcome(impl.WithoutEnd(x, u)); got != (outcome{impl.ErrNone, false}) {
					t.Errorf("WithoutEnd %q of %v: %v", u, x, got)
				}
			}
		}
	})
}

// All texts of up to 4 of some signs, which are taken if they have different letters alone.
func TestTextsOfLettersToKeep(t *testing.T) {
	eachShape(func(d int64, n int64) {
		x := mixedSeries(d, n, 3, 4)
		for _, text := range append(textsOver("0123/", 4), notWords...) {
			good := int64(len(text)) <= d
			for i, letter := range []byte(text) {
				good = good && letter >= '0' && int64(letter-'0') < d && strings.IndexByte(text, letter) == i
			}
			got, code := impl.KeepLetters(x, text)
			if !good {
				checkSeriesError(t, "KeepLetters "+text, got, code, impl.ErrRange)
				continue
			}
			if code != impl.ErrNone || !impl.IsSeries(got) {
				t.Errorf("KeepLetters %q of %v = %v, %d", text, x, got, code)
			}
		}
		for _, text := range []string{strings.Repeat("0", 100000), strings.Repeat("012", 1000), string(rune('0' + d))} {
			got, code := impl.KeepLetters(x, text)
			checkSeriesError(t, "KeepLetters", got, code, impl.ErrRange)
		}
	})
}
