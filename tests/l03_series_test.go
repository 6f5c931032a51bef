package tests

import (
	"testing"

	"loop.example/g01260/impl"
)

// checkPairs compares what a function makes of two series.
func checkPairs(t *testing.T, name string, do func(x impl.Series, y impl.Series) (impl.Series, int64), cases []pairCase) {
	t.Helper()
	for _, c := range cases {
		z, code := do(seriesOf(t, c.d, c.n, c.x), seriesOf(t, c.d, c.n, c.y))
		checkFit(t, name+" "+c.x+" and "+c.y, z, code, c.d, c.n, c.want)
	}
}

func TestShuffleSeries(t *testing.T) {
	checkPairs(t, "ShuffleSeries", impl.ShuffleSeries, []pairCase{
		{2, 2, "0", "0", "0"},
		{2, 2, "0", "1/2*+2/1*0", "0"},
		{2, 2, "1/2*+2/1*0", "0", "0"},
		{2, 2, "1/1*", "1/2*+2/1*0+-1/3*01", "1/2*+2/1*0+-1/3*01"},
		{2, 2, "1/2*+2/1*0+-1/3*01", "1/1*", "1/2*+2/1*0+-1/3*01"},
		{2, 2, "-3/2*", "1/3*", "-1/2*"},
		{2, 2, "1/1*0", "2/1*1", "2/1*01+2/1*10"},
		{2, 2, "1/1*0", "2/1*0", "4/1*00"},
		{2, 1, "1/1*0+2/1*1", "3/1*0", "0"},
		{2, 1, "2/1*+1/1*0", "3/1*+1/1*1", "6/1*+3/1*0+2/1*1"},
		{2, 3, "1/1*+1/2*0", "2/1*0+3/1*1", "2/1*0+3/1*1+2/1*00+3/2*01+3/2*10"},
		{2, 3, "1/2*0+1/3*1", "1/5*0+1/7*1", "1/5*00+29/210*01+29/210*10+2/21*11"},
		// At 0 the values of both series take each other away.
		{2, 2, "1/1*+1/1*0", "1/1*+-1/1*0", "1/1*+-2/1*00"},
		// At 00 there are 2, then 0, and then 3.
		{1, 2, "1/1*+1/1*0+3/1*00", "1/1*+-1/1*0+2/1*00", "1/1*+3/1*00"},
		{1, 5, "1/1*00", "1/1*000", "10/1*00000"},
		{1, 4, "1/1*00", "1/1*000", "0"},
		{3, 4, "1/2*20", "4/1*2", "2/1*202+4/1*220"},
		{3, 4, "1/2*201", "4/1*20", "0"},
		{3, 4, "1/1*+1/1*2222", "1/1*+-1/1*2+-1/1*2222", "1/1*+-1/1*2"},
		{2, 4, "1/1*01", "1/1*01", "4/1*0011+2/1*0101"},
	})
}

func TestHalfShuffle(t *testing.T) {
	checkPairs(t, "HalfShuffle", impl.HalfShuffle, []pairCase{
		{2, 2, "0", "0", "0"},
		{2, 2, "0", "1/1*0", "0"},
		{2, 2, "1/1*0", "0", "0"},
		{2, 2, "1/1*", "1/1*", "0"},
		{2, 2, "3/1*", "1/2*+2/1*0+-1/3*01", "0"},
		{2, 2, "1/2*+2/1*0+-1/3*01", "1/1*", "2/1*0+-1/3*01"},
		{2, 2, "1/1*0", "1/1*0", "1/1*00"},
		{2, 2, "1/1*0", "2/1*1", "2/1*01"},
		{2, 2, "2/1*1", "1/1*0", "2/1*10"},
		{2, 2, "1/1*0", "5/1*+1/1*1", "5/1*0+1/1*01"},
		{2, 3, "1/1*+1/2*0", "2/1*0+3/1*1", "1/1*00+3/2*01"},
		{2, 3, "1/1*01", "1/1*0", "1/1*001+1/1*010"},
		{2, 3, "1/1*0", "1/1*01", "1/1*001"},
		{2, 2, "1/1*01", "1/1*0", "0"},
		{2, 2, "1/1*0", "1/1*01", "0"},
		// At 00 there are -2, and then 0.
		{1, 2, "1/1*0+2/1*00", "1/1*+-2/1*0", "1/1*0"},
		{1, 5, "1/1*00", "1/1*000", "4/1*00000"},
		{1, 5, "1/1*000", "1/1*00", "6/1*00000"},
		{3, 4, "1/2*20", "4/1*2", "2/1*202+2/1*220"},
		{3, 4, "4/1*2", "1/2*20", "2/1*220"},
		{3, 4, "4/1*22", "1/2*201", "0"},
	})
}

func TestSeriesOfWordsShuffleAsTheWords(t *testing.T) {
	eachShape(func(d int64, n int64) {
		for _, v := range allWords(d, min(n, 3)) {
			for _, w := range allWords(d, min(n, 3)) {
				x, y := oneTerm(d, n, v, fr(-2, 3)), oneTerm(d, n, w, fr(6, 1))
				z, code := impl.ShuffleSeries(x, y)
				if want := seriesOfTakings(d, n, takings(v, w, false), -4); code != impl.ErrNone || !sameSeries(z, want) {
					t.Errorf("ShuffleSeries %q and %q = %v, %d, want %v", v, w, z, code, want)
				}
				want := impl.Series{Letters: d, Level: n}
				if v != "" {
					want = seriesOfTakings(d, n, takings(v, w, true), -4)
				}
				if z, code = impl.HalfShuffle(x, y); code != impl.ErrNone || !sameSeries(z, want) {
					t.Errorf("HalfShuffle %q and %q = %v, %d, want %v", v, w, z, code, want)
				}
			}
		}
	})
}

// powerCase is a power of a series with its result, both as texts.
type powerCase struct {
	d, n int64
	x    string
	k    int64
	want string
}

// checkShufflePowers compares shuffle powers.
func checkShufflePowers(t *testing.T, cases []powerCase) {
	t.Helper()
	for _, c := range cases {
		z, code := impl.ShufflePower(seriesOf(t, c.d, c.n, c.x), c.k)
		checkFit(t, "ShufflePower of "+c.x, z, code, c.d, c.n, c.want)
	}
}

func TestShufflePower(t *testing.T) {
	checkShufflePowers(t, []powerCase{
		{2, 2, "0", 0, "1/1*"},
		{2, 2, "0", 1, "0"},
		{2, 2, "0", impl.MaxShuffle, "0"},
		{3, 4, "1/1*+2/1*0", 0, "1/1*"},
		{2, 2, "1/2*+2/1*0+-1/3*01", 0, "1/1*"},
		{2, 2, "1/2*+2/1*0+-1/3*01", 1, "1/2*+2/1*0+-1/3*01"},
		{2, 3, "1/1*0", 3, "6/1*000"},
		{1, 5, "1/1*0", 5, "120/1*00000"},
		{1, 5, "1/1*0", 6, "0"},
		{1, 5, "-1/2*0", impl.MaxShuffle, "0"},
		{3, 4, "1/1*2", 4, "24/1*2222"},
		{3, 4, "1/1*2", 5, "0"},
		{2, 2, "1/1*0+1/1*1", 2, "2/1*00+2/1*01+2/1*10+2/1*11"},
		{2, 4, "1/1*01", 2, "4/1*0011+2/1*0101"},
		{2, 3, "1/1*01", 2, "0"},
		{1, 1, "2/1*", impl.MaxShuffle, "256/1*"},
		{1, 1, "-1/2*", 7, "-1/128*"},
		{1, 2, "1/1*+1/1*0", 2, "1/1*+2/1*0+2/1*00"},
		{1, 5, "1/1*+1/1*0", impl.MaxShuffle, "1/1*+8/1*0+56/1*00+336/1*000+1680/1*0000+6720/1*00000"},
		// The power 2 of the values at 0 is taken away by those at 00.
		{1, 2, "1/1*+1/1*0+-1/1*00", 2, "1/1*+2/1*0"},
	})
}

// checkFractionText compares a result with a text, or with ErrLimit.
func checkFractionText(t *testing.T, name string, a impl.Fraction, code int64, want string) {
	t.Helper()
	if want == noFit {
		checkFraction(t, name, a, code, impl.Fraction{}, impl.ErrLimit)
		return
	}
	exact, parsed := impl.ParseFraction(want)
	if parsed != impl.ErrNone {
		t.Fatalf("ParseFraction(%q): code %d", want, parsed)
	}
	checkFraction(t, name, a, code, exact, impl.ErrNone)
}

// checkPairings compares pairings, in both orders of the series.
func checkPairings(t *testing.T, cases []pairCase) {
	t.Helper()
	for _, c := range cases {
		x, y := seriesOf(t, c.d, c.n, c.x), seriesOf(t, c.d, c.n, c.y)
		a, code := impl.PairSeries(x, y)
		checkFractionText(t, "PairSeries "+c.x+" and "+c.y, a, code, c.want)
		a, code = impl.PairSeries(y, x)
		checkFractionText(t, "PairSeries "+c.y+" and "+c.x, a, code, c.want)
	}
}

func TestPairSeries(t *testing.T) {
	checkPairings(t, []pairCase{
		{2, 2, "0", "0", "0/1"},
		{2, 2, "0", "1/1*+1/1*0", "0/1"},
		{2, 2, "1/1*0", "1/1*1", "0/1"},
		{2, 2, "1/2*", "1/3*", "1/6"},
		{2, 3, "1/1*+1/2*0", "2/1*0+3/1*1", "1/1"},
		{2, 2, "1/2*+2/1*0+-1/3*01", "4/1*+1/1*0+6/1*01", "2/1"},
		{2, 2, "1/1*0+1/1*1", "1/1*0+-1/1*1", "0/1"},
		{2, 2, "1/1*0+1/1*1+1/1*11", "1/1*0+-1/1*1+3/1*11", "3/1"},
		{2, 2, "1/1*01", "1/1*10", "0/1"},
		{1, 1, "1/1*+2/1*0", "3/1*0", "6/1"},
		{1, 5, "1/1*00000", "-1/7*00000", "-1/7"},
		{3, 4, "1/2*2222", "4/3*2222", "2/3"},
		{3, 4, "1/2*0+1/2*2222", "1/1*1+4/3*2221", "0/1"},
	})
}

// shuffleValueCase is the value of a series at the shuffle of v and w, all as texts.
type shuffleValueCase struct {
	d, n          int64
	x, v, w, want string
}

// checkShuffleValues compares values at shuffles.
func checkShuffleValues(t *testing.T, cases []shuffleValueCase) {
	t.Helper()
	for _, c := range cases {
		a, code := impl.ValueAtShuffle(seriesOf(t, c.d, c.n, c.x), c.v, c.w)
		checkFractionText(t, "ValueAtShuffle "+c.x+" at "+c.v+" and "+c.w, a, code, c.want)
	}
}

func TestValueAtShuffle(t *testing.T) {
	checkShuffleValues(t, []shuffleValueCase{
		{2, 2, "0", "0", "1", "0/1"},
		{2, 2, "0", "", "", "0/1"},
		{2, 2, "5/2*+1/1*0", "", "", "5/2"},
		{2, 2, "1/1*0", "", "1", "0/1"},
		{2, 2, "1/1*0+1/3*01", "", "01", "1/3"},
		{2, 2, "1/1*0+1/3*01", "01", "", "1/3"},
		{2, 2, "3/1*01+-1/1*10", "0", "1", "2/1"},
		{2, 2, "3/1*01+-3/1*10", "1", "0", "0/1"},
		{2, 2, "1/2*00", "0", "0", "1/1"},
		{2, 2, "1/2*00+7/1*01", "1", "1", "0/1"},
		{1, 1, "1/2*0", "0", "", "1/2"},
		{1, 5, "1/3*00000", "00", "000", "10/3"},
		{1, 5, "1/3*00000", "0", "0", "0/1"},
		{2, 3, "1/1*001+5/1*010+7/1*100", "0", "01", "7/1"},
		{2, 5, "1/1*00101+1/2*01010+3/1*11111", "0101", "0", "5/2"},
		{3, 4, "1/2*0122+1/1*0212+1/5*2012+7/1*2021", "2", "012", "11/5"},
	})
}

// testCase is what a test of a series tells, with its error, and the series as a text.
type testCase struct {
	d, n int64
	x    string
	want bool
	code int64
}

// checkTests compares what a function tells of series.
func checkTests(t *testing.T, name string, do func(x impl.Series) (bool, int64), cases []testCase) {
	t.Helper()
	for _, c := range cases {
		if got, code := do(seriesOf(t, c.d, c.n, c.x)); got != c.want || code != c.code {
			t.Errorf("%s of %s = %v, %d, want %v, %d", name, c.x, got, code, c.want, c.code)
		}
	}
}

func TestIsGroupLike(t *testing.T) {
	eachShape(func(d int64, n int64) {
		checkTests(t, "IsGroupLike", impl.IsGroupLike, []testCase{
			{d, n, "1/1*", true, impl.ErrNone},
			{d, n, "0", false, impl.ErrNone},
			{d, n, "1/1*0", false, impl.ErrNone},
			{d, n, "-1/1*", false, impl.ErrNone},
			{d, n, "1/2*", false, impl.ErrNone},
			{d, n, "1/1*+1/1*0", n == 1, impl.ErrNone},
		})
	})
	checkTests(t, "IsGroupLike", impl.IsGroupLike, []testCase{
		{2, 1, "1/1*+5/1*0+7/2*1", true, impl.ErrNone},
		{1, 2, "1/1*+1/1*00", false, impl.ErrNone},
		{1, 3, "1/1*+2/1*0+2/1*00+4/3*000", true, impl.ErrNone},
		{1, 3, "1/1*+2/1*0+2/1*00+1/1*000", false, impl.ErrNone},
		{1, 3, "1/1*+2/1*0+2/1*00", false, impl.ErrNone},
		{1, 3, "2/1*0+2/1*00+4/3*000", false, impl.ErrNone},
		{1, 3, "1/1*+2/1*0+1/1*00+4/3*000", false, impl.ErrNone},
		{1, 5, "1/1*+1/1*0+1/2*00+1/6*000+1/24*0000+1/120*00000", true, impl.ErrNone},
		{1, 5, "1/1*+1/1*0+1/2*00+1/6*000+1/24*0000+1/60*00000", false, impl.ErrNone},
		{2, 2, "1/1*+1/1*0+1/1*1+1/2*00+1/1*01+1/2*11", true, impl.ErrNone},
		{2, 2, "1/1*+1/1*0+1/1*1+1/2*00+1/2*01+1/2*10+1/2*11", true, impl.ErrNone},
		{2, 2, "1/1*+1/1*0+1/1*1+1/2*00+1/2*11", false, impl.ErrNone},
		{2, 2, "1/1*+1/1*0+1/1*1+1/2*00+1/1*01+1/3*11", false, impl.ErrNone},
		{2, 2, "1/1*+1/1*01+-1/1*10", true, impl.ErrNone},
		{2, 2, "1/1*+1/1*01", false, impl.ErrNone},
		{3, 2, "1/1*+1/1*12+-1/1*21", true, impl.ErrNone},
		{3, 4, "1/1*+1/1*2+1/2*22+1/6*222+1/24*2222", true, impl.ErrNone},
		{3, 4, "1/1*+1/1*2+1/2*22+1/6*222+1/24*2221", false, impl.ErrNone},
	})
}

func TestIsLieSeries(t *testing.T) {
	eachShape(func(d int64, n int64) {
		checkTests(t, "IsLieSeries", impl.IsLieSeries, []testCase{
			{d, n, "0", true, impl.ErrNone},
			{d, n, "-7/2*0", true, impl.ErrNone},
			{d, n, "1/1*", false, impl.ErrNone},
			{d, n, "1/9*+1/1*0", false, impl.ErrNone},
		})
	})
	checkTests(t, "IsLieSeries", impl.IsLieSeries, []testCase{
		{2, 1, "5/1*0+7/2*1", true, impl.ErrNone},
		{1, 2, "1/1*0+1/1*00", false, impl.ErrNone},
		{1, 5, "1/1*00000", false, impl.ErrNone},
		{2, 2, "5/1*0+1/2*01+-1/2*10", true, impl.ErrNone},
		{2, 2, "1/1*+5/1*0+1/2*01+-1/2*10", false, impl.ErrNone},
		{2, 2, "1/2*01+1/2*10", false, impl.ErrNone},
		{2, 2, "1/2*01", false, impl.ErrNone},
		{2, 2, "1/2*11", false, impl.ErrNone},
		{2, 3, "1/1*001+-2/1*010+1/1*100", true, impl.ErrNone},
		{2, 3, "1/1*001+-2/1*010", false, impl.ErrNone},
		{2, 3, "1/1*001+-1/1*010", false, impl.ErrNone},
		{3, 3, "1/1*012+-1/1*021+-1/1*120+1/1*210", true, impl.ErrNone},
		{3, 3, "1/1*012+-1/1*021+-1/1*120", false, impl.ErrNone},
		{3, 4, "1/1*2222", false, impl.ErrNone},
		// The commutator of [0, 1] and [0, 2].
		{3, 4, "1/1*0102+-1/1*0120+-1/1*0201+1/1*0210+-1/1*1002+1/1*1020+1/1*2001+-1/1*2010", true, impl.ErrNone},
		{3, 4, "1/1*0102+-1/1*0120+-1/1*0201+1/1*0210+-1/1*1002+1/1*1020+1/1*2001", false, impl.ErrNone},
	})
}
