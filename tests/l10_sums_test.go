package tests

import (
	"slices"
	"testing"

	"loop.example/g01260/impl"
)

// checkNumber compares a result with a number.
func checkNumber(t *testing.T, name string, got int64, code int64, want int64) {
	t.Helper()
	if code != impl.ErrNone || got != want {
		t.Errorf("%s = %d, %d, want %d", name, got, code, want)
	}
}

// sumCase is a word with both sums of a sequence at it.
type sumCase struct {
	word         string
	strict, weak int64
}

// checkSums compares sums of a sequence with those that cases tell.
func checkSums(t *testing.T, d int64, p path, cases []sumCase) {
	t.Helper()
	for _, c := range cases {
		got, code := impl.StrictSum(d, p, c.word)
		checkNumber(t, "StrictSum at "+c.word, got, code, c.strict)
		got, code = impl.WeakSum(d, p, c.word)
		checkNumber(t, "WeakSum at "+c.word, got, code, c.weak)
	}
}

func TestSumsOfOneLetter(t *testing.T) {
	checkSums(t, 1, path{{1}, {2}, {3}}, []sumCase{
		{"", 1, 1}, {"0", 6, 6}, {"00", 11, 25}, {"000", 6, 90}, {"0000", 0, 301}, {"00000", 0, 966},
	})
	checkSums(t, 1, path{{3}, {1}, {2}}, []sumCase{{"00", 11, 25}, {"000", 6, 90}})
	// Sums that are negative, or 0.
	checkSums(t, 1, path{{-1}, {2}, {-3}}, []sumCase{{"0", -2, -2}, {"00", -5, 9}, {"000", 6, -22}, {"0000", 0, 77}})
	checkSums(t, 1, path{{1}, {-1}}, []sumCase{{"0", 0, 0}, {"00", -1, 1}, {"000", 0, 0}, {"0000", 0, 1}})
	// Words that are longer than the sequence.
	checkSums(t, 1, path{{7}}, []sumCase{{"", 1, 1}, {"0", 7, 7}, {"00", 0, 49}, {"000", 0, 343}, {"0000", 0, 2401}, {"00000", 0, 16807}})
	checkSums(t, 1, repeated(impl.MaxSteps, 1), []sumCase{{"0", 12, 12}, {"00", 66, 78}, {"000", 220, 364}, {"0000", 495, 1365}, {"00000", 792, 4368}})
}

func TestSumsOfMoreLetters(t *testing.T) {
	checkSums(t, 2, path{{1, 2}, {3, 4}}, []sumCase{
		{"", 1, 1}, {"0", 4, 4}, {"1", 6, 6}, {"00", 3, 13}, {"01", 4, 18}, {"10", 6, 20}, {"11", 8, 28}, {"010", 0, 56}, {"00000", 0, 364},
	})
	checkSums(t, 2, path{{1, -1}, {-1, 1}}, []sumCase{{"0", 0, 0}, {"1", 0, 0}, {"00", -1, 1}, {"01", 1, -1}, {"10", 1, -1}, {"11", -1, 1}})
	checkSums(t, 2, path{{1, 0}, {0, 1}}, []sumCase{{"01", 1, 1}, {"10", 0, 0}, {"001", 0, 1}, {"011", 0, 1}, {"101", 0, 0}})
	checkSums(t, 2, path{{0, 1}, {1, 0}}, []sumCase{{"01", 0, 0}, {"10", 1, 1}})
	checkSums(t, 3, path{{1, 2, 3}, {4, 5, 6}, {7, 8, 9}}, []sumCase{
		{"", 1, 1}, {"0", 12, 12}, {"2", 18, 18}, {"02", 51, 141}, {"012", 45, 1275}, {"210", 105, 1575}, {"120", 84, 1479}, {"222", 162, 2430}, {"01210", 0, 80784},
	})
	// A word may only go along the entries in their order.
	checkSums(t, 3, path{{1, 0, 0}, {0, 1, 0}, {0, 0, 1}, {0, 1, 0}, {1, 0, 0}}, []sumCase{
		{"01210", 1, 1}, {"012", 1, 1}, {"0121", 1, 1}, {"02120", 0, 0}, {"00000", 0, 6}, {"11", 1, 3},
	})
}

func TestSumsOfSequencesWithoutEntries(t *testing.T) {
	for d := int64(1); d <= impl.MaxLetter; d++ {
		for _, p := range []path{nil, {}} {
			for _, w := range allWords(d, 5)[1:] {
				checkSums(t, d, p, []sumCase{{"", 1, 1}, {w, 0, 0}})
			}
		}
	}
}

func TestSumsWithRests(t *testing.T) {
	checkSums(t, 1, path{{0}, {5}, {0}, {0}, {2}, {0}}, []sumCase{{"0", 7, 7}, {"00", 10, 39}, {"000", 0, 203}})
	checkSums(t, 1, repeated(impl.MaxSteps, 0), []sumCase{{"", 1, 1}, {"0", 0, 0}, {"00", 0, 0}, {"00000", 0, 0}})
	checkSums(t, 3, path{{0, 0, 0}, {1, 2, 3}, {0, 0, 0}, {4, 5, 6}, {7, 8, 9}, {0, 0, 0}}, []sumCase{
		{"0", 12, 12}, {"02", 51, 141}, {"012", 45, 1275}, {"01210", 0, 80784},
	})
}

func TestGreatestSums(t *testing.T) {
	checkSums(t, 1, repeated(impl.MaxSteps, impl.MaxStep), []sumCase{
		{"", 1, 1}, {"0", 1200, 1200}, {"00", 660000, 780000}, {"000", 220000000, 364000000}, {"0000", 49500000000, 136500000000}, {"00000", 7920000000000, 43680000000000},
	})
	checkSums(t, 1, repeated(impl.MaxSteps, -impl.MaxStep), []sumCase{{"0", -1200, -1200}, {"0000", 49500000000, 136500000000}, {"00000", -7920000000000, -43680000000000}})
	checkSums(t, 2, repeated(impl.MaxSteps, 100, -100), []sumCase{{"01010", 7920000000000, 43680000000000}, {"10101", -7920000000000, -43680000000000}})
	checkSums(t, 3, repeated(impl.MaxSteps, 100, 100, -100), []sumCase{{"01201", -7920000000000, -43680000000000}, {"22222", -7920000000000, -43680000000000}})
}

func TestSeriesOfSums(t *testing.T) {
	for _, c := range []struct {
		d, n         int64
		p            path
		strict, weak string
	}{
		{1, 1, nil, "1/1*", "1/1*"}, {2, 5, path{}, "1/1*", "1/1*"}, {3, 4, repeated(impl.MaxSteps, 0, 0, 0), "1/1*", "1/1*"},
		{1, 1, path{{1}, {2}, {3}}, "1/1*+6/1*0", "1/1*+6/1*0"},
		{1, 3, path{{1}, {2}, {3}}, "1/1*+6/1*0+11/1*00+6/1*000", "1/1*+6/1*0+25/1*00+90/1*000"},
		{1, 5, path{{7}}, "1/1*+7/1*0", "1/1*+7/1*0+49/1*00+343/1*000+2401/1*0000+16807/1*00000"},
		{2, 2, path{{1, 2}, {3, 4}}, "1/1*+4/1*0+6/1*1+3/1*00+4/1*01+6/1*10+8/1*11", "1/1*+4/1*0+6/1*1+13/1*00+18/1*01+20/1*10+28/1*11"},
		// Sums that are 0 have no term.
		{2, 2, path{{1, -1}, {-1, 1}}, "1/1*+-1/1*00+1/1*01+1/1*10+-1/1*11", "1/1*+1/1*00+-1/1*01+-1/1*10+1/1*11"},
		{2, 3, path{{1, 2}}, "1/1*+1/1*0+2/1*1", "1/1*+1/1*0+2/1*1+1/1*00+2/1*01+2/1*10+4/1*11+1/1*000+2/1*001+2/1*010+4/1*011+2/1*100+4/1*101+4/1*110+8/1*111"},
		{3, 2, path{{1, 2, 3}, {-1, 0, 2}}, "1/1*+2/1*1+5/1*2+-1/1*00+2/1*02+-2/1*10+4/1*12+-3/1*20+6/1*22",
			"1/1*+2/1*1+5/1*2+1/1*00+2/1*01+3/1*02+4/1*11+10/1*12+-2/1*20+6/1*21+19/1*22"},
		{3, 4, path{{1, 0, 0}, {0, 0, 0}, {0, 0, -1}}, "1/1*+1/1*0+-1/1*2+-1/1*02",
			"1/1*+1/1*0+-1/1*2+1/1*00+-1/1*02+1/1*22+1/1*000+-1/1*002+1/1*022+-1/1*222+1/1*0000+-1/1*0002+1/1*0022+-1/1*0222+1/1*2222"},
	} {
		got, code := impl.StrictSeries(c.d, c.n, c.p)
		checkSeries(t, "StrictSeries", got, code, c.d, c.n, c.strict)
		got, code = impl.WeakSeries(c.d, c.n, c.p)
		checkSeries(t, "WeakSeries", got, code, c.d, c.n, c.weak)
	}
}

func TestWithoutRests(t *testing.T) {
	for _, c := range []struct {
		d       int64
		p, want path
	}{
		{1, nil, nil},
		{3, path{}, nil},
		{1, path{{0}}, nil},
		{1, repeated(impl.MaxSteps, 0), nil},
		{3, repeated(impl.MaxSteps, 0, 0, 0), nil},
		{1, path{{5}}, path{{5}}},
		{1, path{{0}, {5}, {-5}}, path{{5}, {-5}}},
		{1, path{{5}, {0}, {0}, {-5}}, path{{5}, {-5}}},
		{1, path{{5}, {-5}, {0}}, path{{5}, {-5}}},
		{1, path{{0}, {1}, {0}, {2}, {0}, {0}, {3}, {0}}, path{{1}, {2}, {3}}},
		{2, path{{0, 0}, {1, 0}, {0, 0}, {0, 1}, {0, 0}}, path{{1, 0}, {0, 1}}},
		{2, path{{1, -1}, {0, 0}, {-1, 1}}, path{{1, -1}, {-1, 1}}},
		{3, path{{0, 0, 1}, {0, 0, 0}, {0, -1, 0}, {100, 0, 0}, {0, 0, 0}}, path{{0, 0, 1}, {0, -1, 0}, {100, 0, 0}}},
		// Entries that are the same, or opposite, stay.
		{2, path{{1, 2}, {1, 2}, {-1, -2}}, path{{1, 2}, {1, 2}, {-1, -2}}},
		{1, repeated(impl.MaxSteps, 100), repeated(impl.MaxSteps, 100)},
		{1, append(repeated(impl.MaxSteps-1, 0), []int64{-100}), path{{-100}}},
		{1, append(path{{-100}}, repeated(impl.MaxSteps-1, 0)...), path{{-100}}},
	} {
		got, code := impl.WithoutRests(c.d, c.p)
		checkPath(t, "WithoutRests", got, code, c.want)
	}
}

func TestDifferencesOf(t *testing.T) {
	for _, c := range []struct{ list, want []int64 }{
		{[]int64{5}, nil}, {[]int64{0}, nil}, {[]int64{-100}, nil},
		{[]int64{1, 4}, []int64{3}}, {[]int64{1, 4, 2}, []int64{3, -2}}, {[]int64{7, 7, 7}, []int64{0, 0}},
		{[]int64{-3, 2, -1, 0}, []int64{5, -3, 1}}, {[]int64{100, -100, 100}, []int64{-200, 200}},
		{[]int64{1, 2, 4, 7, 11, 16, 22, 29, 37, 46, 56, 67}, []int64{1, 2, 3, 4, 5, 6, 7, 8, 9, 10, 11}},
		{slices.Repeat([]int64{100, -100}, impl.MaxSteps/2), append(slices.Repeat([]int64{-200, 200}, impl.MaxSteps/2-1), -200)},
	} {
		got, code := impl.DifferencesOf(c.list)
		checkNumbers(t, "DifferencesOf", got, code, c.want)
	}
}

func TestSumsOf(t *testing.T) {
	for _, c := range []struct{ list, want []int64 }{
		{nil, []int64{0}}, {[]int64{}, []int64{0}}, {[]int64{5}, []int64{0, 5}}, {[]int64{0}, []int64{0, 0}}, {[]int64{-100}, []int64{0, -100}},
		{[]int64{3, -2}, []int64{0, 3, 1}}, {[]int64{1, 2, 3, 4}, []int64{0, 1, 3, 6, 10}}, {[]int64{1, -1, 1, -1}, []int64{0, 1, 0, 1, 0}},
		{slices.Repeat([]int64{100}, impl.MaxSteps), []int64{0, 100, 200, 300, 400, 500, 600, 700, 800, 900, 1000, 1100, 1200}},
		{slices.Repeat([]int64{-100}, impl.MaxSteps), []int64{0, -100, -200, -300, -400, -500, -600, -700, -800, -900, -1000, -1100, -1200}},
	} {
		got, code := impl.SumsOf(c.list)
		checkNumbers(t, "SumsOf", got, code, c.want)
	}
}

// ofOneLetter returns a sequence for d letters, in which only the letter i has numbers.
func ofOneLetter(d int64, i int64, numbers ...int64) path {
	var p path
	for _, number := range numbers {
		entry := flatStep(d, 0)
		entry[i] = number
		p = append(p, entry)
	}
	return p
}

// sameCase are two lists of numbers with the greatest level at which their sums are the same, 5 also
// standing for greater ones.
type sameCase struct {
	a, b  []int64
	level int64
}

func TestSameSumsOfOneLetter(t *testing.T) {
	for _, c := range []sameCase{
		{nil, nil, 5}, {nil, []int64{0, 0}, 5}, {[]int64{1, 2, 3}, []int64{1, 2, 3}, 5},
		{[]int64{0, 1, 0, 2, 0}, []int64{1, 2}, 5}, {[]int64{1, 2, 3}, []int64{3, 1, 2}, 5},
		{nil, []int64{1}, 0}, {[]int64{3}, []int64{-3}, 0}, {[]int64{100}, []int64{99}, 0},
		{[]int64{3}, []int64{1, 2}, 1}, {nil, []int64{1, -1}, 1},
		{[]int64{1, 5, 6}, []int64{2, 3, 7}, 2}, {[]int64{0, 4, 7, 11}, []int64{1, 2, 9, 10}, 3},
		{[]int64{1, 2, 10, 14, 18}, []int64{0, 4, 8, 16, 17}, 4}, {[]int64{0, 5, 6, 16, 17, 22}, []int64{1, 2, 10, 12, 20, 21}, 5},
		// Sums that no fraction could be.
		{slices.Repeat([]int64{100}, 12), slices.Repeat([]int64{100}, 12), 5}, {slices.Repeat([]int64{100}, 12), slices.Repeat([]int64{-100}, 12), 0},
		{[]int64{81, 84, 92, 94, 98, 100, 100, 100, 100}, []int64{82, 82, 94, 93, 98, 100, 100, 100, 100}, 1},
		{append(slices.Repeat([]int64{100}, 6), 0, 4, 7, 11), append(slices.Repeat([]int64{100}, 6), 1, 2, 9, 10), 3},
	} {
		for d := int64(1); d <= impl.MaxLetter; d++ {
			for i := range d {
				for n := int64(1); n <= levelsOf(d); n++ {
					checkSame(t, d, n, ofOneLetter(d, i, c.a...), ofOneLetter(d, i, c.b...), n <= c.level)
				}
			}
		}
	}
}

// checkSame requires SameSums to tell whether two sequences have the same sums, in either order.
func checkSame(t *testing.T, d int64, n int64, a path, b path, want bool) {
	t.Helper()
	for _, pair := range [][2]path{{a, b}, {b, a}} {
		if got, code := impl.SameSums(d, n, pair[0], pair[1]); got != want || code != impl.ErrNone {
			t.Errorf("SameSums(%d, %d, %v, %v) = %v, %d, want %v", d, n, pair[0], pair[1], got, code, want)
		}
	}
}

func TestSameSumsOfMoreLetters(t *testing.T) {
	for _, c := range []struct {
		d     int64
		a, b  path
		level int64
	}{
		{2, path{{1, 0}, {0, 1}}, path{{0, 1}, {1, 0}}, 1},
		{2, path{{1, 0}, {0, 1}}, path{{0, 0}, {1, 0}, {0, 0}, {0, 1}, {0, 0}}, 5},
		{2, path{{1, 2}, {2, 4}}, path{{2, 4}, {1, 2}}, 5},
		{2, path{{1, 2}, {3, 4}}, path{{3, 4}, {1, 2}}, 1},
		{2, path{{1, 0}}, path{{0, 1}}, 0},
		{2, path{{1, 1}}, path{{1, 0}, {0, 1}}, 1},
		// The same entries in both halves, in opposite orders.
		{2, path{{0, 1}, {1, 0}, {1, 0}, {0, 1}}, path{{1, 0}, {0, 1}, {0, 1}, {1, 0}}, 2},
		{3, path{{0, 0, 1}}, path{{0, 0, 2}}, 0},
		{3, path{{1, 0, 0}, {0, 1, 0}, {0, 0, 1}}, path{{1, 0, 0}, {0, 1, 0}, {0, 0, 1}, {0, 0, 0}}, 4},
		{3, path{{1, 0, 0}, {0, 1, 0}, {0, 0, 1}}, path{{0, 1, 0}, {1, 0, 0}, {0, 0, 1}}, 1},
		{3, repeated(impl.MaxSteps, 100, -100, 100), repeated(impl.MaxSteps, 100, -100, 100), 4},
		{3, repeated(impl.MaxSteps, 100, -100, 100), repeated(impl.MaxSteps, 100, -100, 99), 0},
	} {
		for n := int64(1); n <= levelsOf(c.d); n++ {
			checkSame(t, c.d, n, c.a, c.b, n <= c.level)
		}
	}
}
