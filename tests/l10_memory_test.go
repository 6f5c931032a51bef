package tests

import (
	"runtime"
	"slices"
	"testing"

	"loop.example/g01260/impl"
)

// sequenceMakers are all functions of chapter 10 of sequences.
func sequenceMakers() []pathMaker {
	list := []pathMaker{
		{"WithoutRests", func(d int64, a path, b path) path { p, _ := impl.WithoutRests(d, a); return p }},
		{"SameSums", func(d int64, a path, b path) path { impl.SameSums(d, 3, a, b); return nil }},
	}
	// The others have no sequence in their results.
	for _, f := range functionsOfSequences() {
		list = append(list, pathMaker{f.name, func(d int64, a path, b path) path { f.call(d, a); return nil }})
	}
	return list
}

func TestSequencesAreNeitherWrittenNorShared(t *testing.T) {
	checkPathMakers(t, sequenceMakers())
	checkPathsAgain(t, sequenceMakers()[:2])
}

// A sequence may have one entry at several places. What is made of it must not.
func TestResultsOfSequencesWithOneEntryTwice(t *testing.T) {
	entry, rest := []int64{1, 2}, []int64{0, 0}
	shared := path{entry, rest, entry, rest, rest, entry}
	got, code := impl.WithoutRests(2, shared)
	checkPath(t, "WithoutRests", got, code, repeated(3, 1, 2))
	checkOwnMemory(t, "WithoutRests", got)
	changedAfter(got)
	if !slices.Equal(entry, []int64{1, 2}) || !slices.Equal(rest, []int64{0, 0}) {
		t.Errorf("the entries have become %v and %v", entry, rest)
	}
}

func TestSeriesOfSumsAreNew(t *testing.T) {
	for _, c := range memoryPaths() {
		for n := int64(0); n <= 5; n++ {
			checkNewSeries(t, "StrictSeries", func() (impl.Series, int64) { return impl.StrictSeries(c.d, n, c.p) })
			checkNewSeries(t, "WeakSeries", func() (impl.Series, int64) { return impl.WeakSeries(c.d, n, c.p) })
		}
	}
}

// listMaker is a function of two lists of numbers, of which it may use one, with the lists that it returns.
type listMaker struct {
	name string
	call func(v []int64, w []int64) rowList
}

// listMakers are all functions of chapter 10 of lists and compositions.
func listMakers() []listMaker {
	quasi := func(u []int64, v []int64) rowList {
		lists, ways, _ := impl.QuasiProduct(u, v)
		return append(slices.Clone(lists), ways)
	}
	return []listMaker{
		{"QuasiProduct", quasi},
		{"QuasiProduct with nothing", func(v []int64, w []int64) rowList { return quasi(v, nil) }},
		{"QuasiProduct to nothing", func(v []int64, w []int64) rowList { return quasi(nil, v) }},
		{"QuasiProduct with itself", func(v []int64, w []int64) rowList { return quasi(v, v) }},
		{"DifferencesOf", func(v []int64, w []int64) rowList { list, _ := impl.DifferencesOf(v); return rowList{list} }},
		{"SumsOf", func(v []int64, w []int64) rowList { list, _ := impl.SumsOf(v); return rowList{list} }},
		{"PowerSum", func(v []int64, w []int64) rowList { impl.PowerSum(v, w); return nil }},
		{"PowerSum of one list twice", func(v []int64, w []int64) rowList { impl.PowerSum(v, v); return nil }},
	}
}

// memoryListPairs are pairs of lists of all kinds, and of what is none.
func memoryListPairs() []rowList {
	longest, most := make([]int64, impl.MaxSteps), slices.Repeat([]int64{100}, impl.MaxSteps)
	return []rowList{
		{nil, nil}, {{1}, nil}, {nil, {2}}, {{1}, {1}}, {{1, 2}, {3, 4}}, {{1, 1, 1, 1}, {1, 1, 1, 1}}, {{5, 4, 3, 2}, {1, 2}}, {{1, 2, 3, 4, 5}, {1}}, {{3, 2, 1}, {1, 1, 1, 1, 1}},
		{{1, 2, 3}, {0}}, {{6}, {1}}, {{-1, 100, 0}, {5, 5}}, {longest, {1, 2}}, {most, {5, 5, 5}}, {append(slices.Clone(most), 1), {1}}, {{101}, {1}}, {{1}, {1, 1, 1, 1, 1, 1, 1}},
	}
}

func TestListsAreNeitherWrittenNorShared(t *testing.T) {
	made := map[string]int{}
	for _, pair := range memoryListPairs() {
		for _, f := range listMakers() {
			args := spacious(pair)
			before := wholeOf(args)
			got := f.call(args[0], args[1])
			if shareRows(got, args) || !samePath(wholeOf(args), before) {
				t.Errorf("%s writes into %v, or shares its memory", f.name, pair)
			}
			checkOwnMemory(t, f.name, got)
			want := changedAfter(got)
			again := f.call(args[0], args[1])
			if !samePath(again, want) || shareRows(got, again) || !samePath(wholeOf(args), before) {
				t.Errorf("%s of %v = %v, and then %v", f.name, pair, want, again)
			}
			for _, row := range want {
				made[f.name] += len(row)
			}
		}
	}
	for _, f := range listMakers()[:6] {
		if made[f.name] == 0 {
			t.Errorf("%s makes no numbers", f.name)
		}
	}
}

// Two lists may be parts of one, which has to stay as it is.
func TestListsOfOneList(t *testing.T) {
	numbers := []int64{1, 2, 1, 3, 2, 5}
	list := slices.Clone(numbers)
	for _, f := range listMakers() {
		for from := range list {
			for to := from; to <= len(list); to++ {
				for _, pair := range []rowList{{list[:to], list[from:]}, {list[from:to], list}, {list, list[:to]}, {list[from:], list[from:]}} {
					apart := f.call(slices.Clone(pair[0]), slices.Clone(pair[1]))
					if got := f.call(pair[0], pair[1]); !samePath(got, apart) || shareRows(got, pair) || !slices.Equal(list, numbers) {
						t.Errorf("%s of %v and %v = %v, and apart %v", f.name, pair[0], pair[1], got, apart)
					}
				}
			}
		}
	}
}

// All sums have come to their ends when a result is there, whether or not it is an error.
func TestSumsLeaveNothingBehind(t *testing.T) {
	functions := functionsOfSequences()
	before := runtime.NumGoroutine()
	for range 3 {
		for d := int64(1); d <= impl.MaxLetter; d++ {
			for _, p := range append(samplePaths(d), path{{1, 2, 3, 4}}) {
				for _, f := range functions {
					f.call(d, p)
				}
			}
		}
	}
	checkNothingLeft(t, before)
}

// Functions may be called at the same time, as nothing is kept between calls, and no sum depends on when it is
// made.
func TestSumsAtTheSameTime(t *testing.T) {
	p := path{{1, -2}, {0, 0}, {3, 5}, {-7, 4}, {2, 2}}
	strict, _ := impl.StrictSeries(2, 5, p)
	weak, _ := impl.WeakSeries(2, 5, p)
	results := make(chan bool)
	for range 50 {
		go func() {
			x, _ := impl.StrictSeries(2, 5, p)
			y, _ := impl.WeakSeries(2, 5, p)
			same, _ := impl.SameSums(2, 5, p, p)
			results <- same && sameSeries(x, strict) && sameSeries(y, weak)
		}()
	}
	for range 50 {
		if !<-results {
			t.Errorf("sums of %v that are made at the same time are not the same", p)
		}
	}
}
