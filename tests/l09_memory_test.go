package tests

import (
	"runtime"
	"slices"
	"testing"

	"loop.example/g01260/impl"
)

// groupMaker is a function of two group words, of which it may use one, with the lists of numbers that it
// returns.
type groupMaker struct {
	name string
	call func(d int64, v []int64, w []int64) rowList
}

// groupMakers are all functions of chapter 9 of group words.
func groupMakers() []groupMaker {
	only := func(list []int64, code int64) rowList { return rowList{list} }
	makers := []groupMaker{
		{"IsGroupWord", func(d int64, v []int64, w []int64) rowList { impl.IsGroupWord(d, v); return nil }},
		{"ReduceWord", func(d int64, v []int64, w []int64) rowList { return only(impl.ReduceWord(d, v)) }},
		{"InverseWord", func(d int64, v []int64, w []int64) rowList { return only(impl.InverseWord(d, v)) }},
		{"MultiplyWords", func(d int64, v []int64, w []int64) rowList { return only(impl.MultiplyWords(d, v, w)) }},
		{"MultiplyWords with nothing", func(d int64, v []int64, w []int64) rowList { return only(impl.MultiplyWords(d, v, nil)) }},
		{"MultiplyWords to nothing", func(d int64, v []int64, w []int64) rowList { return only(impl.MultiplyWords(d, nil, v)) }},
		{"CommutatorWord", func(d int64, v []int64, w []int64) rowList { return only(impl.CommutatorWord(d, v, w)) }},
		{"LetterSums", func(d int64, v []int64, w []int64) rowList { return only(impl.LetterSums(d, v)) }},
		{"PathOfWord", func(d int64, v []int64, w []int64) rowList { steps, _ := impl.PathOfWord(d, v); return steps }},
		{"AreEqualInGroup", func(d int64, v []int64, w []int64) rowList { impl.AreEqualInGroup(d, v, w); return nil }},
	}
	// The others have no numbers in their results.
	for _, f := range append(append(plainGroupFunctions(), groupLevelFunctions(3)...), groupLevelFunctions(0)...) {
		makers = append(makers, groupMaker{"the code of " + f.name, func(d int64, v []int64, w []int64) rowList { f.call(d, v); return nil }})
	}
	return makers
}

// memoryWordPairs are pairs of group words of all kinds, and of what is none.
func memoryWordPairs() []rowList {
	list := []rowList{}
	for _, pair := range [][2]string{
		{"", ""}, {"a", ""}, {"", "b"}, {"ab", "BA"}, {"aB", "Ba"}, {"abc", "cba"}, {"aA", "bB"}, {"abBAc", "CCa"}, {"aaaaaaaaaaaa", "A"}, {"aaaaaaaaaaaa", "b"},
		{"abcabcCBACBA", "abcabcCBACBA"}, {"abcabc", "abcabc"}, {"bbbbbbaBBBBB", "b"},
	} {
		list = append(list, rowList{numbersOf(pair[0]), numbersOf(pair[1])})
	}
	for _, bad := range notGroupWords() {
		if len(bad.word) <= impl.MaxGroup+1 {
			list = append(list, rowList{bad.word, {1, 2}}, rowList{{1, 2}, bad.word})
		}
	}
	return list
}

func TestGroupWordsAreNeitherWrittenNorShared(t *testing.T) {
	makers, made := groupMakers(), map[string]int{}
	for _, pair := range memoryWordPairs() {
		for d := int64(0); d <= impl.MaxLetter+1; d++ {
			for _, f := range makers {
				args := spacious(pair)
				before := wholeOf(args)
				got := f.call(d, args[0], args[1])
				if !samePath(wholeOf(args), before) {
					t.Errorf("%s writes into %v", f.name, pair)
				}
				if shareRows(got, args) {
					t.Errorf("%s of %v shares its memory", f.name, pair)
				}
				checkOwnMemory(t, f.name, got)
				want := changedAfter(got)
				again := f.call(d, args[0], args[1])
				if !samePath(again, want) || shareRows(got, again) || !samePath(wholeOf(args), before) {
					t.Errorf("%s of %v = %v, and then %v", f.name, pair, want, again)
				}
				for _, row := range want {
					made[f.name] += len(row)
				}
			}
		}
	}
	for _, f := range makers[1:8] {
		if made[f.name] == 0 {
			t.Errorf("%s makes no numbers", f.name)
		}
	}
}

// Two words may be parts of one list, which has to stay as it is.
func TestGroupWordsOfOneList(t *testing.T) {
	for _, text := range []string{"abcABC", "aAbBcC", "abBAcC", "aaabbb"} {
		for _, f := range groupMakers() {
			list := numbersOf(text)
			for from := range list {
				for to := from; to <= len(list); to++ {
					for _, pair := range []rowList{{list[:to], list[from:]}, {list[from:to], list}, {list, list[:to]}, {list[from:], list[from:]}} {
						apart := f.call(3, slices.Clone(pair[0]), slices.Clone(pair[1]))
						if got := f.call(3, pair[0], pair[1]); !samePath(got, apart) || shareRows(got, pair) || !slices.Equal(list, numbersOf(text)) {
							t.Errorf("%s of %v and %v = %v, and apart %v", f.name, pair[0], pair[1], got, apart)
						}
					}
				}
			}
		}
	}
}

// checkNewSeries compares two results of a function that returns a series, changing the first one wherever
// its terms reach.
func checkNewSeries(t *testing.T, name string, makeSeries func() (impl.Series, int64)) {
	t.Helper()
	first, firstCode := makeSeries()
	want := slices.Clone(first.Terms)
	whole := first.Terms[:cap(first.Terms)]
	for i := range whole {
		whole[i] = spareTerm
	}
	second, code := makeSeries()
	if code != firstCode || !slices.Equal(second.Terms, want) || shareMemory(first.Terms, second.Terms) {
		t.Errorf("%s = %v, %d, and then %v, %d", name, want, firstCode, second, code)
	}
}

func TestSeriesOfGroupWordsAreNew(t *testing.T) {
	for _, text := range append([]string{"BAbABaba", "abAB", "abA"}, groupTexts...) {
		eachLettersOf(text, func(d int64) {
			for n := int64(0); n <= 5; n++ {
				word := numbersOf(text)
				checkNewSeries(t, "SignatureOfWord "+text, func() (impl.Series, int64) { return impl.SignatureOfWord(d, n, word) })
				checkNewSeries(t, "LeadingPart of "+text, func() (impl.Series, int64) { return impl.LeadingPart(d, n, word) })
			}
		})
	}
}

func TestSignaturesOfWordsAreNotWritten(t *testing.T) {
	functions := []seriesFunction{{"WordOfSignature", func(x impl.Series, y impl.Series) impl.Series {
		impl.WordOfSignature(x)
		return impl.Series{}
	}}}
	var pairs [][2]impl.Series
	for _, text := range []string{"", "a", "abA", "BAbABaba", "aaaaaa"} {
		eachLettersOf(text, func(d int64) {
			x, _ := impl.SignatureOfWord(d, 3, numbersOf(text))
			pairs = append(pairs, [2]impl.Series{x, x}, [2]impl.Series{mixedSeries(d, 3, 3, 4), x})
		})
	}
	checkMemory(t, functions, pairs)
}

func TestWordsOfSignaturesAreNew(t *testing.T) {
	for _, text := range []string{"", "a", "aB", "abA", "ABab", "aabA"} {
		eachLettersOf(text, func(d int64) {
			x, _ := impl.SignatureOfWord(d, 4, numbersOf(text))
			first, _ := impl.WordOfSignature(x)
			want := changedAfter(rowList{first})
			second, code := impl.WordOfSignature(x)
			checkNumbers(t, "WordOfSignature of "+text, second, code, want[0])
			if shareMemory(first, second) || !slices.Equal(second, numbersOf(text)) {
				t.Errorf("WordOfSignature of %s = %v, and then %v", text, want, second)
			}
		})
	}
}

func TestParsedGroupWordsAreNew(t *testing.T) {
	for _, text := range groupTexts {
		word, _ := impl.ParseGroup(3, text)
		own, _ := impl.GroupText(3, word)
		want := changedAfter(rowList{word})
		again, code := impl.ParseGroup(3, text)
		checkNumbers(t, "ParseGroup "+text, again, code, want[0])
		if shareMemory(word, again) || own != text || shareBytes(own, text) && len(own) > 1 {
			t.Errorf("ParseGroup(3, %q) = %v, and then %v", text, want, again)
		}
	}
}

// checkNothingLeft requires that no more goroutines are there than before some calls.
func checkNothingLeft(t *testing.T, before int) {
	t.Helper()
	// What has ended may still be counted for a moment.
	for range 100000 {
		if runtime.NumGoroutine() <= before {
			return
		}
		runtime.Gosched()
	}
	t.Errorf("%d goroutines are left, after %d before", runtime.NumGoroutine(), before)
}

// A search has come to its end when its result is there, whether a word was found first, last, or not at
// all.
func TestSearchesLeaveNothingBehind(t *testing.T) {
	var samples []impl.Series
	for _, text := range []string{"", "B", "ab", "bbb", "BBBB"} {
		x, _ := impl.SignatureOfWord(2, 4, numbersOf(text))
		samples = append(samples, x)
	}
	samples = append(samples, largeSeries(2, 4), impl.Series{Letters: 2, Level: 4}, impl.Series{})
	before := runtime.NumGoroutine()
	for range 20 {
		for _, x := range samples {
			impl.WordOfSignature(x)
		}
	}
	checkNothingLeft(t, before)
}
