package tests

import (
	"math/bits"
	"slices"
	"strings"
	"testing"

	"loop.example/g01260/impl"
)

// takings returns, for each word, in how many ways letters of it make v, so that the others make w.
// It tries all choices of places, or, for the half shuffle, all those with the first place.
func takings(v string, w string, half bool) map[string]int64 {
	counts := map[string]int64{}
	length := len(v) + len(w)
	for chosen := range uint(1) << length {
		if bits.OnesCount(chosen) != len(v) || half && chosen&1 == 0 {
			continue
		}
		var u []byte
		restV, restW := v, w
		for i := range length {
			if chosen>>i&1 == 1 {
				u, restV = append(u, restV[0]), restV[1:]
			} else {
				u, restW = append(u, restW[0]), restW[1:]
			}
		}
		counts[string(u)]++
	}
	return counts
}

// oneTerm returns the series of a word with a value.
func oneTerm(d int64, n int64, w string, a impl.Fraction) impl.Series {
	return impl.Series{Letters: d, Level: n, Terms: []impl.Term{{Word: w, Value: a}}}
}

// seriesOfTakings returns a shuffle, times a whole number, without words that are too long.
func seriesOfTakings(d int64, n int64, counts map[string]int64, a int64) impl.Series {
	x := impl.Series{Letters: d, Level: n}
	for _, u := range allWords(d, n) {
		if counts[u] != 0 {
			x.Terms = append(x.Terms, impl.Term{Word: u, Value: fr(a*counts[u], 1)})
		}
	}
	return x
}

func TestShuffleWords(t *testing.T) {
	if impl.MaxShuffle != 8 {
		t.Errorf("MaxShuffle = %d", impl.MaxShuffle)
	}
	cases := []struct {
		d, n       int64
		v, w, want string
	}{
		{2, 3, "0", "01", "2/1*001+1/1*010"},
		{2, 3, "01", "0", "2/1*001+1/1*010"},
		{2, 2, "0", "01", "0"},
		{2, 2, "0", "1", "1/1*01+1/1*10"},
		{2, 2, "1", "0", "1/1*01+1/1*10"},
		{2, 1, "1", "0", "0"},
		{2, 2, "0", "0", "2/1*00"},
		{2, 2, "", "", "1/1*"},
		{2, 1, "", "", "1/1*"},
		{3, 4, "", "", "1/1*"},
		{2, 2, "", "10", "1/1*10"},
		{2, 2, "10", "", "1/1*10"},
		{1, 5, "00", "000", "10/1*00000"},
		{1, 5, "0", "0000", "5/1*00000"},
		{1, 5, "00000", "", "1/1*00000"},
		{1, 5, "", "00000", "1/1*00000"},
		{1, 4, "00", "000", "0"},
		{1, 5, "000", "000", "0"},
		{1, 5, "00000", "00000", "0"},
		{2, 3, "01", "01", "0"},
		{2, 4, "01", "01", "4/1*0011+2/1*0101"},
		{2, 4, "01", "10", "1/1*0101+2/1*0110+2/1*1001+1/1*1010"},
		{2, 4, "00", "11", "1/1*0011+1/1*0101+1/1*0110+1/1*1001+1/1*1010+1/1*1100"},
		{3, 3, "0", "12", "1/1*012+1/1*102+1/1*120"},
		{3, 4, "2", "012", "2/1*0122+1/1*0212+1/1*2012"},
		{3, 4, "20", "2", "1/1*202+2/1*220"},
		{3, 4, "01", "222", "0"},
	}
	for _, c := range cases {
		x, code := impl.ShuffleWords(c.d, c.n, c.v, c.w)
		checkSeries(t, "ShuffleWords "+c.v+" and "+c.w, x, code, c.d, c.n, c.want)
	}
}

func TestShufflesOfAllWords(t *testing.T) {
	eachShape(func(d int64, n int64) {
		for _, v := range allWords(d, n) {
			for _, w := range allWords(d, min(n, 3)) {
				want := seriesOfTakings(d, n, takings(v, w, false), 1)
				for _, pair := range [][2]string{{v, w}, {w, v}} {
					got, code := impl.ShuffleWords(d, n, pair[0], pair[1])
					if code != impl.ErrNone || !sameSeries(got, want) {
						t.Errorf("ShuffleWords(%d, %d, %q) = %v, %d, want %v", d, n, pair, got, code, want)
					}
				}
			}
		}
	})
}

func TestShuffleNumber(t *testing.T) {
	cases := []struct {
		d       int64
		v, w, u string
		want    int64
	}{
		{2, "", "", "", 1},
		{2, "", "", "0", 0},
		{2, "0", "", "", 0},
		{2, "", "0", "", 0},
		{2, "", "01", "01", 1},
		{2, "01", "", "01", 1},
		{2, "01", "", "10", 0},
		{2, "01", "01", "0011", 4},
		{2, "01", "01", "0101", 2},
		{2, "01", "01", "0110", 0},
		{2, "01", "01", "001", 0},
		{2, "01", "01", "00111", 0},
		{2, "0", "1", "00", 0},
		{3, "0", "12", "102", 1},
		{3, "21", "21", "2121", 2},
		{1, "0000", "0000", "00000000", 70},
		{1, "0", "0000000", "00000000", 8},
		{1, "00000000", "", "00000000", 1},
		{1, "", "00000000", "00000000", 1},
		{1, "00000000", "00000000", "00000000", 0},
		{1, "00000000", "00000000", "", 0},
		{1, "0000", "00000", "00000000", 0},
		{1, "0000", "000", "00000000", 0},
		{2, "01010101", "", "01010101", 1},
		{2, "01010101", "", "01010110", 0},
		{2, "0011", "0011", "00001111", 36},
		{2, "0000", "1111", "01010101", 1},
		{2, "0101", "0101", "00110011", 16},
		{3, "0202", "1212", "01220122", 4},
	}
	for _, c := range cases {
		for _, pair := range [][2]string{{c.v, c.w}, {c.w, c.v}} {
			got, code := impl.ShuffleNumber(c.d, pair[0], pair[1], c.u)
			if got != c.want || code != impl.ErrNone {
				t.Errorf("ShuffleNumber(%d, %q, %q) = %d, %d, want %d", c.d, pair, c.u, got, code, c.want)
			}
			if counted := takings(pair[0], pair[1], false)[c.u]; counted != c.want {
				t.Errorf("the number of %q for %q is %d", c.u, pair, counted)
			}
		}
	}
}

func TestShuffleNumbersOfAllWords(t *testing.T) {
	for d, longest := range map[int64]int64{1: 4, 2: 3, 3: 2} {
		for _, v := range allWords(d, longest) {
			for _, w := range allWords(d, longest) {
				counts := takings(v, w, false)
				for _, u := range allWords(d, 2*longest) {
					got, code := impl.ShuffleNumber(d, v, w, u)
					if got != counts[u] || code != impl.ErrNone {
						t.Errorf("ShuffleNumber(%d, %q, %q, %q) = %d, %d, want %d", d, v, w, u, got, code, counts[u])
					}
				}
			}
		}
	}
}

func TestShuffleNumbersAreThoseOfShuffles(t *testing.T) {
	eachShape(func(d int64, n int64) {
		for _, v := range allWords(d, min(n, 2)) {
			for _, w := range allWords(d, n-int64(len(v))) {
				x, _ := impl.ShuffleWords(d, n, v, w)
				for _, u := range allWords(d, n) {
					a, _ := impl.CoefficientOf(x, u)
					number, code := impl.ShuffleNumber(d, v, w, u)
					checkFraction(t, "ShuffleNumber and ShuffleWords of "+v+" and "+w, fr(number, 1), code, a, impl.ErrNone)
				}
			}
		}
	})
}

// cutCase is a word with its cuts, which are told as texts.
type cutCase struct {
	d    int64
	w    string
	want string
}

func TestCutsOfWord(t *testing.T) {
	for _, c := range []cutCase{
		{2, "", "|"},
		{1, "", "|"},
		{1, "0", "|0 0|"},
		{2, "1", "|1 1|"},
		{2, "01", "|01 0|1 01|"},
		{3, "202", "|202 2|02 20|2 202|"},
		{2, "10010011", "|10010011 1|0010011 10|010011 100|10011 1001|0011 10010|011 100100|11 1001001|1 10010011|"},
		{1, "00000000", "|00000000 0|0000000 00|000000 000|00000 0000|0000 00000|000 000000|00 0000000|0 00000000|"},
	} {
		cuts, code := impl.CutsOfWord(c.d, c.w)
		var texts []string
		for _, cut := range cuts {
			texts = append(texts, strings.Join(cut, "|"))
		}
		if strings.Join(texts, " ") != c.want || code != impl.ErrNone {
			t.Errorf("CutsOfWord(%d, %q) = %q, %d, want %s", c.d, c.w, cuts, code, c.want)
		}
	}
}

func TestCutsMakeTheWord(t *testing.T) {
	for d := int64(1); d <= impl.MaxLetter; d++ {
		for _, w := range append(allWords(d, 4), strings.Repeat("0", impl.MaxShuffle)) {
			cuts, code := impl.CutsOfWord(d, w)
			if len(cuts) != len(w)+1 || code != impl.ErrNone {
				t.Errorf("CutsOfWord(%d, %q) = %q, %d", d, w, cuts, code)
			}
			for i, cut := range cuts {
				if !slices.Equal(cut, []string{w[:i], w[i:]}) {
					t.Errorf("CutsOfWord(%d, %q) has %q at %d", d, w, cut, i)
				}
			}
		}
	}
}
