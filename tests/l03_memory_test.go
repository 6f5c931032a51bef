package tests

import (
	"slices"
	"testing"

	"loop.example/g01260/impl"
)

// shuffleMemoryFunctions are the functions of chapter 3 that take series.
func shuffleMemoryFunctions() []seriesFunction {
	type series = impl.Series
	list := []seriesFunction{
		{"PairSeries", func(x series, y series) series { impl.PairSeries(x, y); return series{} }},
		{"PairSeries with itself", func(x series, y series) series { impl.PairSeries(x, x); return series{} }},
		{"IsGroupLike", func(x series, y series) series { impl.IsGroupLike(x); return series{} }},
		{"IsLieSeries", func(x series, y series) series { impl.IsLieSeries(x); return series{} }},
	}
	for name, do := range shuffleFunctions {
		list = append(list,
			seriesFunction{name, func(x series, y series) series { z, _ := do(x, y); return z }},
			seriesFunction{name + " with itself", func(x series, y series) series { z, _ := do(x, x); return z }})
	}
	for k := int64(-1); k <= impl.MaxShuffle+1; k++ {
		list = append(list, seriesFunction{"ShufflePower", func(x series, y series) series {
			z, _ := impl.ShufflePower(x, k)
			return z
		}})
	}
	for _, w := range []string{"", "0", "01", "011", "x", "000000"} {
		list = append(list, seriesFunction{"ValueAtShuffle " + w, func(x series, y series) series {
			impl.ValueAtShuffle(x, w, "0")
			return series{}
		}})
	}
	return list
}

func TestShufflesAreNeitherWrittenNorShared(t *testing.T) {
	checkMemory(t, shuffleMemoryFunctions(), productPairs(t))
}

func TestShufflesDoNotDependOnCallsBefore(t *testing.T) {
	checkCallsBefore(t, shuffleMemoryFunctions(), productPairs(t))
}

func TestShufflesOfWordsAreNew(t *testing.T) {
	v, w := string([]byte("01")), string([]byte("1"))
	for _, pair := range [][2]string{{v, w}, {v, ""}, {"", v}, {w, ""}} {
		first, _ := impl.ShuffleWords(2, 3, pair[0], pair[1])
		if len(first.Terms) == 0 {
			t.Fatalf("ShuffleWords %q has no terms", pair)
		}
		for _, term := range first.Terms {
			if shareBytes(term.Word, v) || shareBytes(term.Word, w) {
				t.Errorf("ShuffleWords %q keeps a word", pair)
			}
		}
		want := slices.Clone(first.Terms)
		for i := range first.Terms {
			first.Terms[i] = spareTerm
		}
		second, _ := impl.ShuffleWords(2, 3, pair[0], pair[1])
		if !slices.Equal(second.Terms, want) || shareMemory(first.Terms, second.Terms) {
			t.Errorf("ShuffleWords %q = %v after a change of its result", pair, second)
		}
	}
}

func TestCutsAreNew(t *testing.T) {
	word := string([]byte("01101001"))
	cuts, _ := impl.CutsOfWord(2, word)
	others, _ := impl.CutsOfWord(2, word)
	for i, cut := range cuts {
		for _, part := range cut {
			if shareBytes(part, word) {
				t.Errorf("CutsOfWord keeps its word for %q", part)
			}
		}
		// Whatever is written into a cut, or behind it, is seen in no other one.
		whole := cut[:cap(cut)]
		for k := range whole {
			whole[k] = "changed"
		}
		for k := i + 1; k < len(cuts); k++ {
			if !slices.Equal(cuts[k], []string{word[:k], word[k:]}) {
				t.Errorf("the cut %d is %q after a change of the cut %d", k, cuts[k], i)
			}
		}
	}
	for i, cut := range others {
		if !slices.Equal(cut, []string{word[:i], word[i:]}) {
			t.Errorf("the cut %d of another result is %q", i, cut)
		}
	}
}
