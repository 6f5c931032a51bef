package tests

import (
	"slices"
	"strings"
	"testing"

	"loop.example/g01260/impl"
)

// wordMaker is a function of a text, with the words that it returns.
type wordMaker struct {
	name string
	call func(d int64, w string) []string
}

// listsOfWords are the functions of chapter 5 with lists in their results.
func listsOfWords() []wordMaker {
	return []wordMaker{
		{"CutOf", func(d int64, w string) []string { list, _ := impl.CutOf(d, w); return list }},
		{"FactorsOf", func(d int64, w string) []string { list, _ := impl.FactorsOf(d, w); return list }},
		{"LyndonWords", func(d int64, w string) []string { list, _ := impl.LyndonWords(d, int64(len(w))); return list }},
	}
}

// wordMakers are the functions of chapter 5 with words in their results.
func wordMakers() []wordMaker {
	return append(listsOfWords(), []wordMaker{
		{"NextLyndon", func(d int64, w string) []string { v, _ := impl.NextLyndon(d, 8, w); return []string{v} }},
		{"NextLyndon of a letter", func(d int64, w string) []string { v, _ := impl.NextLyndon(d, 1, w); return []string{v} }},
		{"NecklaceOf", func(d int64, w string) []string { v, _ := impl.NecklaceOf(d, w); return []string{v} }},
		{"RootOf", func(d int64, w string) []string { v, _, _ := impl.RootOf(d, w); return []string{v} }},
		{"BracketText", func(d int64, w string) []string { text, _ := impl.BracketText(d, w); return []string{text} }},
		{"ParseBracket", func(d int64, w string) []string { v, _ := impl.ParseBracket(d, w); return []string{v} }},
		{"DualSeries", func(d int64, w string) []string {
			x, _ := impl.DualSeries(d, levelsOf(d), w)
			var list []string
			for _, term := range x.Terms {
				list = append(list, term.Word)
			}
			return list
		}},
	}...)
}

// memoryWords are words of all kinds, and texts of brackets.
func memoryWords() []string {
	words := append(allWords(2, 5), "00000000", "00000001", "10000000", "01010101", "00110011", "10010010", "2", "02", "021",
		"210", "0212", "22222222", "000000000", "a", "0\n")
	for _, w := range lyndonTexts(3, 4) {
		words = append(words, bracketOfEnds(w), bracketOfEnds(w)+"]")
	}
	return words
}

func TestWordsAreNeitherWrittenNorKept(t *testing.T) {
	for _, f := range wordMakers() {
		made := 0
		for _, text := range memoryWords() {
			for d := int64(1); d <= impl.MaxLetter; d++ {
				// The texts of single bytes that the language keeps are no copies.
				w := strings.Clone(text)
				list := f.call(d, w)
				if w != text {
					t.Errorf("%s writes into %q", f.name, text)
				}
				for _, v := range list {
					if made += len(v); shareBytes(v, w) {
						t.Errorf("%s(%d, %q) keeps the text for %q", f.name, d, text, v)
					}
				}
			}
		}
		if made == 0 {
			t.Errorf("%s makes no words", f.name)
		}
	}
}

func TestListsOfWordsAreNew(t *testing.T) {
	for _, f := range listsOfWords() {
		for _, w := range memoryWords() {
			for d := int64(1); d <= impl.MaxLetter; d++ {
				first := f.call(d, w)
				want := slices.Clone(first)
				whole := first[:cap(first)]
				for i := range whole {
					whole[i] = "changed"
				}
				if second := f.call(d, w); !slices.Equal(second, want) {
					t.Errorf("%s(%d, %q) = %q, and then %q", f.name, d, w, want, second)
				}
			}
		}
	}
}

func TestDualSeriesAreNew(t *testing.T) {
	for _, w := range memoryWords() {
		w = strings.Clone(w)
		first, firstCode := impl.DualSeries(2, 5, w)
		want := slices.Clone(first.Terms)
		for i := range first.Terms[:cap(first.Terms)] {
			first.Terms[:cap(first.Terms)][i] = spareTerm
		}
		second, code := impl.DualSeries(2, 5, w)
		if code != firstCode || !slices.Equal(second.Terms, want) || shareMemory(first.Terms, second.Terms) {
			t.Errorf("DualSeries(2, 5, %q) = %v, %d, and then %v, %d", w, want, firstCode, second, code)
		}
	}
}

func TestLyndonWordsDoNotDependOnCallsBefore(t *testing.T) {
	for _, f := range wordMakers() {
		for _, w := range memoryWords() {
			for d := int64(1); d <= impl.MaxLetter; d++ {
				if first, second := f.call(d, w), f.call(d, w); !slices.Equal(first, second) {
					t.Errorf("%s(%d, %q) = %q, and then %q", f.name, d, w, first, second)
				}
			}
		}
	}
}
