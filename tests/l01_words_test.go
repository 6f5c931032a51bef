package tests

import (
	"math"
	"slices"
	"testing"

	"loop.example/g01260/impl"
)

// badLetters returns numbers of letters that are out of their range.
func badLetters() []int64 {
	return []int64{math.MinInt64, -1, 0, impl.MaxLetter + 1, math.MaxInt64}
}

func TestWordsOf(t *testing.T) {
	for d := int64(1); d <= impl.MaxLetter; d++ {
		for n := int64(0); n <= impl.MaxLevel; n++ {
			var want []string
			for _, w := range allWords(d, n) {
				if int64(len(w)) == n {
					want = append(want, w)
				}
			}
			got, code := impl.WordsOf(d, n)
			if code != impl.ErrNone || !slices.Equal(got, want) {
				t.Errorf("WordsOf(%d, %d) = %v, %d", d, n, got, code)
			}
		}
	}
	if got, _ := impl.WordsOf(2, 2); !slices.Equal(got, []string{"00", "01", "10", "11"}) {
		t.Errorf("WordsOf(2, 2) = %v", got)
	}
	if got, _ := impl.WordsOf(3, 0); !slices.Equal(got, []string{""}) {
		t.Errorf("WordsOf(3, 0) = %q", got)
	}
	if got, _ := impl.WordsOf(1, 5); !slices.Equal(got, []string{"00000"}) {
		t.Errorf("WordsOf(1, 5) = %q", got)
	}
	if got, _ := impl.WordsOf(3, 5); len(got) != 243 {
		t.Errorf("WordsOf(3, 5) has %d words", len(got))
	}
}

func TestWordsOfErrors(t *testing.T) {
	check := func(d int64, n int64) {
		if got, code := impl.WordsOf(d, n); len(got) != 0 || code != impl.ErrRange {
			t.Errorf("WordsOf(%d, %d) = %v, %d", d, n, got, code)
		}
	}
	for _, d := range badLetters() {
		check(d, 2)
		check(d, 0)
		check(d, -1)
	}
	for _, n := range []int64{math.MinInt64, -1, impl.MaxLevel + 1, math.MaxInt64} {
		check(1, n)
		check(3, n)
	}
}

func TestNumbersOfWords(t *testing.T) {
	for d := int64(1); d <= impl.MaxLetter; d++ {
		words := allWords(d, impl.MaxLevel)
		for k, w := range words {
			if got, code := impl.NumberOfWord(d, w); got != int64(k) || code != impl.ErrNone {
				t.Errorf("NumberOfWord(%d, %q) = %d, %d, want %d", d, w, got, code, k)
			}
			if got, code := impl.WordOfNumber(d, int64(k)); got != w || code != impl.ErrNone {
				t.Errorf("WordOfNumber(%d, %d) = %q, %d, want %q", d, k, got, code, w)
			}
		}
		if got, code := impl.WordOfNumber(d, int64(len(words))); got != "" || code != impl.ErrRange {
			t.Errorf("WordOfNumber(%d, %d) = %q, %d", d, len(words), got, code)
		}
	}
	if got, code := impl.NumberOfWord(2, "01"); got != 4 || code != impl.ErrNone {
		t.Errorf("NumberOfWord(2, 01) = %d, %d", got, code)
	}
	if got, code := impl.WordOfNumber(3, 363); got != "22222" || code != impl.ErrNone {
		t.Errorf("WordOfNumber(3, 363) = %q, %d", got, code)
	}
}

func TestNumberOfWordErrors(t *testing.T) {
	check := func(d int64, w string) {
		if got, code := impl.NumberOfWord(d, w); got != 0 || code != impl.ErrRange {
			t.Errorf("NumberOfWord(%d, %q) = %d, %d", d, w, got, code)
		}
	}
	for _, d := range badLetters() {
		check(d, "")
		check(d, "0")
		check(d, "x")
	}
	for _, w := range []string{"000000", "0101010101010101010101010101010101010101010101", "a", " ",
		"/", ":", "-0", "+", "01 ", "0\n", "\x00", "\xff", "\u0660", "4", "9"} {
		for d := int64(1); d <= impl.MaxLetter; d++ {
			check(d, w)
		}
	}
	check(1, "1")
	check(1, "01")
	check(2, "2")
	check(2, "0012")
	check(3, "3")
	check(3, "22223")
}

func TestWordOfNumberErrors(t *testing.T) {
	check := func(d int64, k int64) {
		if got, code := impl.WordOfNumber(d, k); got != "" || code != impl.ErrRange {
			t.Errorf("WordOfNumber(%d, %d) = %q, %d", d, k, got, code)
		}
	}
	for _, d := range badLetters() {
		check(d, 0)
		check(d, 1)
		check(d, -1)
		check(d, math.MaxInt64)
	}
	for d := int64(1); d <= impl.MaxLetter; d++ {
		check(d, -1)
		check(d, math.MinInt64)
		check(d, math.MaxInt64)
	}
	check(1, 6)
	check(2, 63)
	check(3, 364)
}
