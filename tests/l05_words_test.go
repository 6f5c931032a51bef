package tests

import (
	"slices"
	"strings"
	"testing"

	"loop.example/g01260/impl"
)

// checkWords compares a list of words with those of a text, with blanks between them.
func checkWords(t *testing.T, name string, got []string, code int64, want string) {
	t.Helper()
	if !slices.Equal(got, strings.Fields(want)) || code != impl.ErrNone {
		t.Errorf("%s = %q, %d, want %q", name, got, code, want)
	}
}

// checkWord compares a word with the wanted one.
func checkWord(t *testing.T, name string, got string, code int64, want string) {
	t.Helper()
	if got != want || code != impl.ErrNone {
		t.Errorf("%s = %q, %d, want %q", name, got, code, want)
	}
}

func TestLimitsOfLyndonWords(t *testing.T) {
	if impl.MaxLyndon != 8 || impl.MaxListed != 400 {
		t.Errorf("MaxLyndon = %d, MaxListed = %d", impl.MaxLyndon, impl.MaxListed)
	}
}

func TestIsLyndon(t *testing.T) {
	check := func(d int64, w string, want bool) {
		t.Helper()
		if is, code := impl.IsLyndon(d, w); is != want || code != impl.ErrNone {
			t.Errorf("IsLyndon(%d, %q) = %v, %d", d, w, is, code)
		}
	}
	for d := int64(1); d <= impl.MaxLetter; d++ {
		check(d, "", false)
		check(d, "0", true)
		check(d, "00", false)
		check(d, "000", false)
		check(d, "00000000", false)
	}
	for _, w := range strings.Fields("1 01 001 011 0001 0011 0111 00101 01011 0010011 00000001 01111111 00010011 00101011") {
		check(2, w, true)
		check(3, w, true)
	}
	for _, w := range strings.Fields("10 11 100 101 110 0110 10000000 11111111 010 001001 0100 0010 00100100 0101 01010101 00110011") {
		check(2, w, false)
		check(3, w, false)
	}
	for _, w := range strings.Fields("2 02 12 012 021 0102 0121 1122 00120021 01202122") {
		check(3, w, true)
	}
	for _, w := range strings.Fields("20 21 22 210 102 120 1201 2222 12012 012012 01200120 02202020") {
		check(3, w, false)
	}
}

func TestLyndonWords(t *testing.T) {
	for _, c := range []struct {
		d, n int64
		want string
	}{
		{1, 1, "0"}, {1, 2, ""}, {1, 3, ""}, {1, 7, ""}, {1, 8, ""},
		{2, 1, "0 1"}, {2, 2, "01"}, {2, 3, "001 011"}, {2, 4, "0001 0011 0111"},
		{2, 5, "00001 00011 00101 00111 01011 01111"},
		{2, 6, "000001 000011 000101 000111 001011 001101 001111 010111 011111"},
		{3, 1, "0 1 2"}, {3, 2, "01 02 12"}, {3, 3, "001 002 011 012 021 022 112 122"},
		{3, 4, "0001 0002 0011 0012 0021 0022 0102 0111 0112 0121 0122 0211 0212 0221 0222 1112 1122 1222"},
	} {
		got, code := impl.LyndonWords(c.d, c.n)
		checkWords(t, "LyndonWords", got, code, c.want)
	}
	// The longest list that is not refused, and the shortest one that is.
	if got, code := impl.LyndonWords(3, 7); len(got) != 312 || code != impl.ErrNone {
		t.Errorf("LyndonWords(3, 7) has %d words, %d", len(got), code)
	}
	if got, code := impl.LyndonWords(3, 8); len(got) != 0 || code != impl.ErrLimit {
		t.Errorf("LyndonWords(3, 8) has %d words, %d", len(got), code)
	}
	if got, code := impl.LyndonWords(2, 8); len(got) != 30 || code != impl.ErrNone {
		t.Errorf("LyndonWords(2, 8) has %d words, %d", len(got), code)
	}
}

func TestCountLyndon(t *testing.T) {
	for d, counts := range map[int64][]int64{
		1: {1, 0, 0, 0, 0, 0, 0, 0, 0, 0, 0, 0, 0, 0, 0, 0, 0, 0, 0, 0},
		2: {2, 1, 2, 3, 6, 9, 18, 30, 56, 99, 186, 335, 630, 1161, 2182, 4080, 7710, 14532, 27594, 52377},
		3: {3, 3, 8, 18, 48, 116, 312, 810, 2184, 5880, 16104, 44220, 122640, 341484, 956576, 2690010,
			7596480, 21522228, 61171656, 174336264},
	} {
		for i, want := range counts {
			if got, code := impl.CountLyndon(d, int64(i)+1); got != want || code != impl.ErrNone {
				t.Errorf("CountLyndon(%d, %d) = %d, %d, want %d", d, i+1, got, code, want)
			}
		}
	}
}

func TestNextLyndon(t *testing.T) {
	for _, c := range []struct {
		d, n    int64
		w, want string
	}{
		{1, 1, "", "0"}, {1, 8, "", "0"},
		{2, 1, "", "0"}, {2, 8, "", "0"}, {3, 4, "", "0"},
		// The next word is longer, or shorter, or as long.
		{2, 3, "0", "001"}, {2, 1, "0", "1"}, {2, 8, "0", "00000001"},
		{2, 3, "001", "01"}, {2, 3, "01", "011"}, {2, 3, "011", "1"}, {2, 4, "0011", "01"},
		{2, 8, "01111111", "1"}, {3, 4, "1222", "2"}, {3, 3, "1", "112"}, {3, 1, "1", "2"},
		{3, 4, "0121", "0122"}, {3, 4, "0122", "02"}, {3, 4, "02", "021"}, {3, 4, "021", "0211"},
		// Words that are no Lyndon words, longer than the next one may be, or both.
		{2, 3, "00", "001"}, {2, 3, "000", "001"}, {2, 2, "000", "01"}, {2, 8, "00000000", "00000001"},
		{2, 3, "010", "011"}, {2, 2, "010", "1"}, {2, 2, "011", "1"}, {2, 1, "01111111", "1"},
		{2, 7, "00000001", "0000001"}, {2, 1, "00000001", "1"}, {2, 2, "00110011", "01"},
		{3, 3, "10", "112"}, {3, 2, "10", "12"}, {3, 2, "11222222", "12"}, {3, 2, "12000000", "2"},
		{3, 8, "11", "11111112"}, {3, 3, "20", ""}, {2, 3, "10", ""},
		// A beginning comes ahead of what goes on.
		{2, 4, "00", "0001"}, {2, 4, "0010", "0011"}, {2, 5, "0010", "00101"}, {3, 5, "012", "01202"},
		// Behind the greatest letter there is nothing.
		{1, 1, "0", ""}, {1, 8, "0", ""}, {1, 1, "00000000", ""}, {2, 1, "1", ""}, {2, 8, "1", ""},
		{2, 8, "11111111", ""}, {3, 8, "2", ""}, {3, 1, "2", ""}, {3, 8, "21", ""}, {3, 8, "20000000", ""},
	} {
		got, code := impl.NextLyndon(c.d, c.n, c.w)
		wantCode := int64(impl.ErrNone)
		if c.want == "" {
			wantCode = impl.ErrNotFound
		}
		if got != c.want || code != wantCode {
			t.Errorf("NextLyndon(%d, %d, %q) = %q, %d, want %q", c.d, c.n, c.w, got, code, c.want)
		}
	}
}

func TestCutOf(t *testing.T) {
	for _, c := range []struct {
		d       int64
		w, want string
	}{
		{2, "01", "0 1"}, {2, "001", "0 01"}, {2, "011", "01 1"}, {2, "0011", "0 011"}, {2, "0001", "0 001"},
		{2, "0111", "011 1"}, {2, "00101", "001 01"}, {2, "01011", "01 011"}, {2, "0010011", "001 0011"},
		{2, "00000001", "0 0000001"}, {2, "01111111", "0111111 1"}, {2, "01101111", "011 01111"},
		{3, "02", "0 2"}, {3, "12", "1 2"}, {3, "012", "0 12"}, {3, "021", "02 1"}, {3, "0102", "01 02"},
		{3, "0121", "012 1"}, {3, "0212", "02 12"}, {3, "01202122", "012 02122"},
	} {
		got, code := impl.CutOf(c.d, c.w)
		checkWords(t, "CutOf "+c.w, got, code, c.want)
	}
	for _, w := range []string{"", "0", "1", "00", "10", "11", "0101", "010", "00000000", "10000000"} {
		if got, code := impl.CutOf(2, w); len(got) != 0 || code != impl.ErrState {
			t.Errorf("CutOf(2, %q) = %q, %d", w, got, code)
		}
	}
}

func TestFactorsOf(t *testing.T) {
	for _, c := range []struct {
		d       int64
		w, want string
	}{
		{1, "", ""}, {3, "", ""}, {1, "0", "0"}, {1, "00", "0 0"}, {1, "00000000", "0 0 0 0 0 0 0 0"},
		{2, "1", "1"}, {2, "01", "01"}, {2, "10", "1 0"}, {2, "11", "1 1"}, {2, "010", "01 0"}, {2, "0101", "01 01"},
		{2, "0011", "0011"}, {2, "0110100", "011 01 0 0"}, {2, "001001", "001 001"}, {2, "00100100", "001 001 0 0"},
		{2, "10010011", "1 0010011"}, {2, "01010101", "01 01 01 01"}, {2, "11111111", "1 1 1 1 1 1 1 1"},
		{2, "10000000", "1 0 0 0 0 0 0 0"}, {2, "00000001", "00000001"}, {2, "01011010", "01011 01 0"},
		{3, "210", "2 1 0"}, {3, "012012", "012 012"}, {3, "2101201", "2 1 012 01"}, {3, "20211020", "2 0211 02 0"},
	} {
		got, code := impl.FactorsOf(c.d, c.w)
		checkWords(t, "FactorsOf "+c.w, got, code, c.want)
	}
}

func TestNecklaceOf(t *testing.T) {
	for _, c := range []struct {
		d       int64
		w, want string
	}{
		{1, "", ""}, {2, "", ""}, {1, "0", "0"}, {2, "1", "1"}, {3, "2", "2"}, {1, "00000000", "00000000"},
		{2, "10", "01"}, {2, "01", "01"}, {2, "1001", "0011"}, {2, "0011", "0011"}, {2, "0101", "0101"},
		{2, "1010", "0101"}, {2, "11111111", "11111111"}, {2, "10000000", "00000001"}, {2, "01111111", "01111111"},
		{2, "10010010", "00100101"}, {2, "11001100", "00110011"},
		{3, "210", "021"}, {3, "120", "012"}, {3, "201", "012"}, {3, "22122", "12222"}, {3, "02010100", "00020101"},
	} {
		got, code := impl.NecklaceOf(c.d, c.w)
		checkWord(t, "NecklaceOf "+c.w, got, code, c.want)
	}
}

func TestRootOf(t *testing.T) {
	for _, c := range []struct {
		d       int64
		w, want string
		power   int64
	}{
		{1, "0", "0", 1}, {2, "1", "1", 1}, {1, "00", "0", 2}, {1, "0000000", "0", 7}, {1, "00000000", "0", 8},
		{2, "01", "01", 1}, {2, "10", "10", 1}, {2, "0101", "01", 2}, {2, "010101", "01", 3}, {2, "01010101", "01", 4},
		{2, "1010", "10", 2}, {2, "01010", "01010", 1}, {2, "0010", "0010", 1}, {2, "00100010", "0010", 2},
		{2, "001001", "001", 2}, {2, "0110110", "0110110", 1}, {2, "00010001", "0001", 2}, {2, "01010100", "01010100", 1},
		{2, "01010111", "01010111", 1}, {2, "11111110", "11111110", 1}, {2, "11111111", "1", 8},
		{3, "2", "2", 1}, {3, "222", "2", 3}, {3, "210210", "210", 2}, {3, "21021", "21021", 1}, {3, "02120212", "0212", 2},
	} {
		got, power, code := impl.RootOf(c.d, c.w)
		if got != c.want || power != c.power || code != impl.ErrNone {
			t.Errorf("RootOf(%d, %q) = %q, %d, %d, want %q, %d", c.d, c.w, got, power, code, c.want, c.power)
		}
	}
	for d := int64(1); d <= impl.MaxLetter; d++ {
		if got, power, code := impl.RootOf(d, ""); got != "" || power != 0 || code != impl.ErrState {
			t.Errorf("RootOf(%d) of the empty word = %q, %d, %d", d, got, power, code)
		}
	}
}
