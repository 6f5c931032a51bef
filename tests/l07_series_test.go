package tests

import (
	"slices"
	"testing"

	"loop.example/g01260/impl"
)

// mapCase is a series with a map, and what it makes of the series, as texts.
type mapCase struct {
	d, n, e int64
	x       string
	m       rowList
	want    string
}

func checkMapped(t *testing.T, cases []mapCase) {
	t.Helper()
	for _, c := range cases {
		x, code := impl.MapSeries(seriesOf(t, c.d, c.n, c.x), c.e, c.m)
		checkFit(t, "MapSeries of "+c.x, x, code, c.e, c.n, c.want)
	}
}

func TestMapSeries(t *testing.T) {
	checkMapped(t, []mapCase{
		{2, 2, 2, "0", rowList{{1, 2}, {3, 4}}, "0"}, {3, 4, 1, "0", flatRows(3, 1, 0), "0"},
		{2, 2, 3, "-3/7*", rowList{{1, 2, 3}, {4, 5, 6}}, "-3/7*"}, {2, 2, 3, "-3/7*", flatRows(2, 3, 0), "-3/7*"},
		{1, 1, 1, "1/3*0", rowList{{-6}}, "-2/1*0"}, {1, 5, 1, "1/1*+1/1*0+1/1*00+1/1*000+1/1*0000+1/1*00000", rowList{{-2}},
			"1/1*+-2/1*0+4/1*00+-8/1*000+16/1*0000+-32/1*00000"},
		{1, 2, 2, "1/1*00", rowList{{2, 3}}, "4/1*00+6/1*01+6/1*10+9/1*11"},
		{1, 3, 3, "1/6*0+1/1*00", rowList{{1, 0, -2}}, "1/6*0+-1/3*2+1/1*00+-2/1*02+-2/1*20+4/1*22"},
		{2, 2, 2, "1/1*0+1/2*1+3/1*01", rowList{{0, 1}, {1, 0}}, "1/2*0+1/1*1+3/1*10"},
		{2, 2, 2, "1/1*01", rowList{{2, 3}, {5, 7}}, "10/1*00+14/1*01+15/1*10+21/1*11"},
		{2, 2, 2, "1/1*01+-1/1*10", rowList{{2, 3}, {5, 7}}, "-1/1*01+1/1*10"},
		{2, 2, 1, "1/1*01+-1/1*10", rowList{{2}, {5}}, "0"}, {2, 2, 1, "1/2*0+1/3*1", rowList{{2}, {-3}}, "0"},
		{2, 3, 1, "1/1*+1/2*0+3/1*01", rowList{{2}, {1}}, "1/1*+1/1*0+6/1*00"},
		{3, 2, 2, "1/1*0+1/1*1+1/1*2+1/1*02+1/1*20", rowList{{1, 0}, {0, 1}, {1, 1}}, "2/1*0+2/1*1+2/1*00+1/1*01+1/1*10"},
		{3, 4, 3, "1/1*0122", rowList{{0, 0, 2}, {3, 0, 0}, {0, 1, -1}}, "6/1*2011+-6/1*2012+-6/1*2021+6/1*2022"},
		{2, 5, 2, "1/2*01011", rowList{{1, 0}, {2, 0}}, "4/1*00000"},
		// Letters that are led to 0 take their words away, wherever they are.
		{2, 3, 2, "5/1*+1/1*0+2/1*1+3/1*01+4/1*10+5/1*11+6/1*101+7/1*111", rowList{{0, 0}, {0, 1}}, "5/1*+2/1*1+5/1*11+7/1*111"},
		{2, 3, 2, "5/1*+1/1*0+2/1*1+5/1*00+3/1*01+4/1*10+6/1*000", rowList{{0, 1}, {0, 0}}, "5/1*+1/1*1+5/1*11+6/1*111"},
		{3, 3, 3, "1/1*+1/1*0+1/1*12+1/1*012", flatRows(3, 3, 0), "1/1*"}, {3, 3, 3, "1/1*0+1/1*12+1/1*012", flatRows(3, 3, 0), "0"},
		{3, 4, 3, "1/2*+1/3*2+1/5*0122", unitMap(3), "1/2*+1/3*2+1/5*0122"},
	})
}

// The Level stays, also where the other letters would allow another one.
func TestMapsBetweenAllNumbersOfLetters(t *testing.T) {
	eachShape(func(d int64, n int64) {
		for e := int64(1); e <= impl.MaxLetter; e++ {
			m := flatRows(d, e, 0)
			for i := range m {
				m[i][int64(i)%e] = 1
			}
			x := impl.Series{Letters: d, Level: n}
			got, code := impl.MapSeries(x, e, m)
			if e == 3 && n == 5 {
				checkSeriesError(t, "MapSeries", got, code, impl.ErrRange)
				continue
			}
			checkSeries(t, "MapSeries", got, code, e, n, "0")
			for _, w := range allWords(d, n) {
				x.Terms = []impl.Term{{Word: w, Value: fr(-2, 3)}}
				want := []byte(w)
				for i := range want {
					want[i] = '0' + (want[i]-'0')%byte(e)
				}
				got, code := impl.MapSeries(x, e, m)
				checkSeries(t, "MapSeries of "+w, got, code, e, n, "-2/3*"+string(want))
			}
		}
	})
}

func TestExchangeLetters(t *testing.T) {
	for _, c := range []struct {
		d, n    int64
		x       string
		letters []int64
		want    string
	}{
		{1, 2, "0", []int64{0}, "0"}, {1, 2, "1/2*+1/3*00", []int64{0}, "1/2*+1/3*00"},
		{2, 2, "0", []int64{1, 0}, "0"}, {2, 2, "3/1*", []int64{1, 0}, "3/1*"},
		{2, 3, "1/1*+1/2*0+3/1*01", []int64{1, 0}, "1/1*+1/2*1+3/1*10"}, {2, 3, "1/1*+1/2*0+3/1*01", []int64{0, 1}, "1/1*+1/2*0+3/1*01"},
		{2, 3, "1/1*0+2/1*1+3/1*001+4/1*110", []int64{1, 0}, "2/1*0+1/1*1+4/1*001+3/1*110"},
		{3, 2, "1/1*0+2/1*1+3/1*2+4/1*01+5/1*12", []int64{1, 2, 0}, "3/1*0+1/1*1+2/1*2+4/1*12+5/1*20"},
		{3, 2, "1/1*0+2/1*1+3/1*2+4/1*01+5/1*12", []int64{2, 0, 1}, "2/1*0+3/1*1+1/1*2+5/1*01+4/1*20"},
		{3, 4, "1000000000/1*0012+1/1000000000*2100+-1000000000/999999999*2222", []int64{2, 1, 0},
			"-1000000000/999999999*0000+1/1000000000*0122+1000000000/1*2210"},
	} {
		got, code := impl.ExchangeLetters(seriesOf(t, c.d, c.n, c.x), c.letters)
		checkSeries(t, "ExchangeLetters of "+c.x, got, code, c.d, c.n, c.want)
	}
}

// partCase is a word that is taken away from a series, with what is left, all as texts.
type partCase struct {
	d, n       int64
	x, u, want string
}

func checkCuts(t *testing.T, name string, do func(x impl.Series, u string) (impl.Series, int64), cases []partCase) {
	t.Helper()
	for _, c := range cases {
		got, code := do(seriesOf(t, c.d, c.n, c.x), c.u)
		checkSeries(t, name+" "+c.u+" of "+c.x, got, code, c.d, c.n, c.want)
	}
}

func TestWithoutBeginning(t *testing.T) {
	const text = "1/1*+1/2*0+1/3*1+1/5*00+1/7*01+1/11*10+1/13*010+1/17*011+1/19*110"
	checkCuts(t, "WithoutBeginning", impl.WithoutBeginning, []partCase{
		{2, 3, text, "", text}, {2, 3, text, "0", "1/2*+1/5*0+1/7*1+1/13*10+1/17*11"}, {2, 3, text, "1", "1/3*+1/11*0+1/19*10"},
		{2, 3, text, "01", "1/7*+1/13*0+1/17*1"}, {2, 3, text, "10", "1/11*"}, {2, 3, text, "11", "1/19*0"}, {2, 3, text, "00", "1/5*"},
		{2, 3, text, "011", "1/17*"}, {2, 3, text, "000", "0"}, {2, 3, text, "101", "0"},
		{2, 3, "0", "", "0"}, {2, 3, "0", "01", "0"}, {2, 3, "1/1*", "0", "0"}, {2, 3, "1/1*", "", "1/1*"},
		{1, 5, "1/1*0+2/1*00000", "0", "1/1*+2/1*0000"}, {1, 5, "1/1*0+2/1*00000", "00000", "2/1*"},
		{3, 4, "1000000000/1*2101+1/1000000000*2122", "21", "1000000000/1*01+1/1000000000*22"},
	})
}

func TestWithoutEnd(t *testing.T) {
	const text = "1/1*+1/2*0+1/3*1+1/5*00+1/7*01+1/11*10+1/13*010+1/17*011+1/19*110"
	checkCuts(t, "WithoutEnd", impl.WithoutEnd, []partCase{
		{2, 3, text, "", text}, {2, 3, text, "0", "1/2*+1/5*0+1/11*1+1/13*01+1/19*11"}, {2, 3, text, "1", "1/3*+1/7*0+1/17*01"},
		{2, 3, text, "01", "1/7*"}, {2, 3, text, "10", "1/11*+1/13*0+1/19*1"}, {2, 3, text, "11", "1/17*0"}, {2, 3, text, "00", "1/5*"},
		{2, 3, text, "011", "1/17*"}, {2, 3, text, "000", "0"}, {2, 3, text, "101", "0"},
		{2, 3, "0", "", "0"}, {2, 3, "0", "01", "0"}, {2, 3, "1/1*", "0", "0"}, {2, 3, "1/1*", "", "1/1*"},
		{1, 5, "1/1*0+2/1*00000", "0", "1/1*+2/1*0000"}, {1, 5, "1/1*0+2/1*00000", "00000", "2/1*"},
		{3, 4, "1000000000/1*0121+1/1000000000*2221", "21", "1000000000/1*01+1/1000000000*22"},
	})
}

// Each value is the coefficient of the word with the beginning, or the end, put to it.
func TestCutSeriesHaveTheCoefficientsOfLongerWords(t *testing.T) {
	eachShape(func(d int64, n int64) {
		x := mixedSeries(d, n, 4, 7)
		at := modelOf(x).at
		for _, u := range allWords(d, n) {
			behind, ahead := impl.Series{Letters: d, Level: n}, impl.Series{Letters: d, Level: n}
			for _, v := range allWords(d, n-int64(len(u))) {
				if a, _ := fitted(at[u+v]); a != zero {
					behind.Terms = append(behind.Terms, impl.Term{Word: v, Value: a})
				}
				if a, _ := fitted(at[v+u]); a != zero {
					ahead.Terms = append(ahead.Terms, impl.Term{Word: v, Value: a})
				}
			}
			if got, code := impl.WithoutBeginning(x, u); code != impl.ErrNone || !sameSeries(got, behind) {
				t.Errorf("WithoutBeginning %q of %v = %v, %d, want %v", u, x, got, code, behind)
			}
			if got, code := impl.WithoutEnd(x, u); code != impl.ErrNone || !sameSeries(got, ahead) {
				t.Errorf("WithoutEnd %q of %v = %v, %d, want %v", u, x, got, code, ahead)
			}
		}
	})
}

func TestKeepLetters(t *testing.T) {
	const text = "1/1*+1/2*0+1/3*1+1/5*2+1/7*00+1/11*01+1/13*12+1/17*22+1/19*010+1/29*012+1/23*020"
	checkCuts(t, "KeepLetters", impl.KeepLetters, []partCase{
		{3, 3, text, "", "1/1*"}, {3, 3, text, "0", "1/1*+1/2*0+1/7*00"}, {3, 3, text, "1", "1/1*+1/3*1"}, {3, 3, text, "2", "1/1*+1/5*2+1/17*22"},
		{3, 3, text, "01", "1/1*+1/2*0+1/3*1+1/7*00+1/11*01+1/19*010"}, {3, 3, text, "10", "1/1*+1/2*0+1/3*1+1/7*00+1/11*01+1/19*010"},
		{3, 3, text, "02", "1/1*+1/2*0+1/5*2+1/7*00+1/17*22+1/23*020"}, {3, 3, text, "21", "1/1*+1/3*1+1/5*2+1/13*12+1/17*22"},
		{3, 3, text, "012", text}, {3, 3, text, "201", text}, {3, 3, text, "120", text},
		{3, 3, "0", "", "0"}, {3, 3, "0", "2", "0"}, {3, 3, "1/1*0+1/1*01", "", "0"}, {3, 3, "1/1*0+1/1*01", "2", "0"},
		{1, 5, "1/2*+1/3*00000", "", "1/2*"}, {1, 5, "1/2*+1/3*00000", "0", "1/2*+1/3*00000"},
		{2, 3, "1/1*011+1/1*101+1/1*110", "1", "0"}, {2, 3, "1/1*011+1/1*101+1/1*111", "1", "1/1*111"},
		{2, 1, "1000000000/1*0+1/1000000000*1", "1", "1/1000000000*1"},
	})
}

func TestIsUnchanged(t *testing.T) {
	turn, opposite := rowList{{0, 1}, {1, 0}}, rowList{{-1, 0}, {0, -1}}
	for _, c := range []struct {
		d, n int64
		x    string
		m    rowList
		want bool
	}{
		{2, 2, "0", rowList{{5, 7}, {-1, 2}}, true}, {2, 2, "3/4*", rowList{{5, 7}, {-1, 2}}, true}, {3, 3, "3/4*", flatRows(3, 3, 0), true},
		{2, 2, "1/1*01+1/1*10", turn, true}, {2, 2, "1/1*01+-1/1*10", turn, false}, {2, 2, "1/1*01+2/1*10", turn, false},
		{2, 2, "1/1*01", turn, false}, {2, 2, "1/1*0+1/1*1", turn, true}, {2, 2, "1/1*0", turn, false},
		{2, 2, "1/1*00+1/2*01", opposite, true}, {2, 2, "1/1*0+1/1*00", opposite, false}, {2, 3, "1/1*001", opposite, false},
		{1, 1, "1/1*0", rowList{{1}}, true}, {1, 1, "1/1*0", rowList{{0}}, false}, {1, 1, "1/1*0", rowList{{2}}, false},
		// Maps whose area is 1, and others, for the area of words of two letters.
		{2, 2, "1/1*01+-1/1*10", rowList{{2, 3}, {1, 2}}, true}, {2, 2, "1/1*01+-1/1*10", rowList{{2, 3}, {3, 2}}, false},
		{2, 2, "1/1*00+1/1*11", rowList{{0, 1}, {-1, 0}}, true}, {2, 2, "1/1*00+2/1*11", rowList{{0, 1}, {-1, 0}}, false},
		{3, 3, "1/1*012+1/1*120+1/1*201", rowList{{0, 1, 0}, {0, 0, 1}, {1, 0, 0}}, true},
		{3, 3, "1/1*012+1/1*120+1/1*201", rowList{{0, 1, 0}, {1, 0, 0}, {0, 0, 1}}, false},
		{3, 4, "1/2*+1/3*2+1000000000/1*0122", unitMap(3), true},
		{2, 2, "1/1*0", rowList{{1, 0}, {100, 100}}, true}, {2, 2, "1/1*1", rowList{{1, 0}, {100, 100}}, false},
	} {
		got, code := impl.IsUnchanged(seriesOf(t, c.d, c.n, c.x), c.m)
		if got != c.want || code != impl.ErrNone {
			t.Errorf("IsUnchanged of %s by %v = %v, %d", c.x, c.m, got, code)
		}
	}
}

func TestDegreesOf(t *testing.T) {
	for _, c := range []struct {
		d, n int64
		x    string
		want [][]int64
	}{
		{1, 1, "0", nil}, {3, 4, "0", nil}, {1, 1, "5/1*", [][]int64{{0}}}, {2, 1, "5/1*", [][]int64{{0, 0}}}, {3, 1, "5/1*", [][]int64{{0, 0, 0}}},
		{1, 5, "1/1*+1/1*0+1/1*00000", [][]int64{{0}, {1}, {5}}},
		{2, 3, "1/1*+1/2*0+3/1*01", [][]int64{{0, 0}, {1, 0}, {1, 1}}},
		{2, 5, "1/1*1+1/1*011+1/1*110+1/1*01010+1/1*11111", [][]int64{{0, 1}, {1, 2}, {1, 2}, {3, 2}, {0, 5}}},
		{3, 4, "1/1*2+1/1*021+1/1*0012+1/1*2220+1/1*2222", [][]int64{{0, 0, 1}, {1, 1, 1}, {2, 1, 1}, {1, 0, 3}, {0, 0, 4}}},
	} {
		got, code := impl.DegreesOf(seriesOf(t, c.d, c.n, c.x))
		checkPath(t, "DegreesOf "+c.x, got, code, c.want)
	}
	eachShape(func(d int64, n int64) {
		x := mixedSeries(d, n, 5, 3)
		got, code := impl.DegreesOf(x)
		if code != impl.ErrNone || len(got) != len(x.Terms) {
			t.Fatalf("DegreesOf %v = %v, %d", x, got, code)
		}
		for i, term := range x.Terms {
			want := flatStep(d, 0)
			for _, letter := range []byte(term.Word) {
				want[letter-'0']++
			}
			if !slices.Equal(got[i], want) {
				t.Errorf("DegreesOf %v has %v for %q", x, got[i], term.Word)
			}
		}
	})
}
