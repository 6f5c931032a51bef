package tests

import (
	"strings"
	"testing"

	"loop.example/g01260/impl"
)

// isToldLyndon reports whether the package tells a word as a Lyndon word.
func isToldLyndon(t *testing.T, d int64, w string) bool {
	t.Helper()
	is, code := impl.IsLyndon(d, w)
	if code != impl.ErrNone {
		t.Errorf("IsLyndon(%d, %q): code %d", d, w, code)
	}
	return is
}

func TestFactorsMakeTheWordAndDoNotRise(t *testing.T) {
	lyndonRange(func(d int64, w string) {
		factors, code := impl.FactorsOf(d, w)
		if strings.Join(factors, "") != w || code != impl.ErrNone {
			t.Errorf("FactorsOf(%d, %q) = %q, %d", d, w, factors, code)
		}
		for i, v := range factors {
			if !isToldLyndon(t, d, v) || i > 0 && factors[i-1] < v {
				t.Errorf("FactorsOf(%d, %q) = %q, which is wrong at %d", d, w, factors, i)
			}
		}
		if isToldLyndon(t, d, w) != (len(factors) == 1) {
			t.Errorf("FactorsOf(%d, %q) = %q", d, w, factors)
		}
	})
}

func TestBracketTextsLeadBack(t *testing.T) {
	held := 0
	lyndonRange(func(d int64, w string) {
		text, code := impl.BracketText(d, w)
		if isToldLyndon(t, d, w) != (code == impl.ErrNone) {
			t.Errorf("BracketText(%d, %q) = %q, %d", d, w, text, code)
		}
		if code != impl.ErrNone {
			return
		}
		got, code := impl.ParseBracket(d, text)
		checkWord(t, "ParseBracket "+text, got, code, w)
		held++
	})
	checkHeld(t, held)
}

func TestCutsAreLyndonWordsThatMakeTheWord(t *testing.T) {
	held := 0
	lyndonRange(func(d int64, w string) {
		cut, code := impl.CutOf(d, w)
		if code != impl.ErrNone {
			return
		}
		held++
		if len(cut) != 2 || cut[0]+cut[1] != w || !isToldLyndon(t, d, cut[0]) || !isToldLyndon(t, d, cut[1]) {
			t.Errorf("CutOf(%d, %q) = %q", d, w, cut)
		}
		u, _ := impl.BracketText(d, cut[0])
		v, _ := impl.BracketText(d, cut[1])
		if text, code := impl.BracketText(d, w); text != "["+u+","+v+"]" || code != impl.ErrNone {
			t.Errorf("BracketText(%d, %q) = %q, %d", d, w, text, code)
		}
	})
	checkHeld(t, held)
}

func TestListsHaveAsManyWordsAsAreCounted(t *testing.T) {
	for d := int64(1); d <= impl.MaxLetter; d++ {
		for n := int64(1); n <= impl.MaxLyndon; n++ {
			count, code := impl.CountLyndon(d, n)
			list, listCode := impl.LyndonWords(d, n)
			if code != impl.ErrNone || (listCode == impl.ErrLimit) != (count > impl.MaxListed) {
				t.Errorf("CountLyndon(%d, %d) = %d, %d, and LyndonWords has the code %d", d, n, count, code, listCode)
			}
			if listCode == impl.ErrNone && int64(len(list)) != count {
				t.Errorf("LyndonWords(%d, %d) has %d words of %d", d, n, len(list), count)
			}
			for i, w := range list {
				if int64(len(w)) != n || !isToldLyndon(t, d, w) || i > 0 && list[i-1] >= w {
					t.Errorf("LyndonWords(%d, %d) = %q, which is wrong at %d", d, n, list, i)
				}
			}
		}
	}
}

func TestNextLyndonWordsAreAllOfThem(t *testing.T) {
	for d := int64(1); d <= impl.MaxLetter; d++ {
		for n := int64(1); n <= impl.MaxLyndon; n++ {
			want := int64(0)
			for length := int64(1); length <= n; length++ {
				count, _ := impl.CountLyndon(d, length)
				want += count
			}
			found := int64(0)
			w, code := impl.NextLyndon(d, n, "")
			for code == impl.ErrNone && found <= want {
				found++
				var next string
				next, code = impl.NextLyndon(d, n, w)
				if code == impl.ErrNone && next <= w || !isToldLyndon(t, d, w) || int64(len(w)) > n {
					t.Errorf("NextLyndon(%d, %d, %q) = %q", d, n, w, next)
				}
				w = next
			}
			if found != want || code != impl.ErrNotFound {
				t.Errorf("NextLyndon(%d, %d) leads to %d words of %d, and to the code %d", d, n, found, want, code)
			}
		}
	}
}

func TestNecklacesOfRootsAreLyndonWords(t *testing.T) {
	lyndonRange(func(d int64, w string) {
		root, power, code := impl.RootOf(d, w)
		if w == "" {
			return
		}
		if code != impl.ErrNone || strings.Repeat(root, int(power)) != w {
			t.Errorf("RootOf(%d, %q) = %q, %d, %d", d, w, root, power, code)
		}
		necklace, code := impl.NecklaceOf(d, root)
		if code != impl.ErrNone || !isToldLyndon(t, d, necklace) {
			t.Errorf("NecklaceOf(%d, %q) = %q, %d", d, root, necklace, code)
		}
		whole, code := impl.NecklaceOf(d, w)
		checkWord(t, "NecklaceOf "+w, whole, code, strings.Repeat(necklace, int(power)))
	})
}

// The dual series of a Lyndon word pairs to 1 with its bracket, and to 0 with those of others.
func TestDualSeriesPairWithBrackets(t *testing.T) {
	eachShape(func(d int64, n int64) {
		words := lyndonTexts(d, n)
		for _, w := range words {
			for _, v := range words {
				var c calls
				dual, bracket := c.of(impl.DualSeries(d, n, w)), c.bracketSeriesOf(d, n, v)
				want := zero
				if v == w {
					want = fr(1, 1)
				}
				a, code := impl.PairSeries(dual, bracket)
				checkFraction(t, "the dual series of "+w+" with the bracket of "+v, a, max(code, c.code), want, impl.ErrNone)
			}
		}
	})
}
