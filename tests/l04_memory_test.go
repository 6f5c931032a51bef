package tests

import (
	"slices"
	"testing"

	"loop.example/g01260/impl"
)

// spareNumber stands in the spare capacity behind the numbers of a step.
const spareNumber = -77

// spacious returns a copy of a path with spare capacity behind it and behind each step.
func spacious(p path) path {
	return spaciousRows(p, spareNumber)
}

// spaciousRows returns a copy of rows with spare capacity, in which spare stands, behind them and behind
// each one.
func spaciousRows[E any](rows [][]E, spare E) [][]E {
	whole := make([][]E, 0, len(rows)+4)
	for _, row := range rows {
		list := append(slices.Clone(row), spare, spare, spare)
		whole = append(whole, list[:len(row)])
	}
	for range 4 {
		whole = append(whole, []E{spare})
	}
	return whole[:len(rows)]
}

// wholeOf returns a copy of a path, or of other rows, with what stands in the spare capacities.
func wholeOf[E any](rows [][]E) [][]E {
	var whole [][]E
	for _, row := range rows[:cap(rows)] {
		whole = append(whole, slices.Clone(row[:cap(row)]))
	}
	return whole
}

// shareRows reports whether two lists of rows, or any rows of both, have a place in common.
func shareRows[E any](a [][]E, b [][]E) bool {
	if shareMemory(a, b) {
		return true
	}
	for _, v := range a[:cap(a)] {
		for _, w := range b[:cap(b)] {
			if shareMemory(v, w) {
				return true
			}
		}
	}
	return false
}

// pathMaker is a function of two paths, of which it may use one, with what it returns of them as a
// path.
type pathMaker struct {
	name string
	call func(d int64, a path, b path) path
}

// pathMakers are all functions of chapter 4.
func pathMakers() []pathMaker {
	list := []pathMaker{
		{"EndOf", func(d int64, a path, b path) path { end, _ := impl.EndOf(d, a); return path{end} }},
		{"ReversePath", func(d int64, a path, b path) path { p, _ := impl.ReversePath(d, a); return p }},
		{"ReducePath", func(d int64, a path, b path) path { p, _ := impl.ReducePath(d, a); return p }},
		{"JoinPaths", func(d int64, a path, b path) path { p, _ := impl.JoinPaths(d, a, b); return p }},
		{"JoinPaths with nothing", func(d int64, a path, b path) path { p, _ := impl.JoinPaths(d, a, nil); return p }},
		{"JoinPaths to nothing", func(d int64, a path, b path) path { p, _ := impl.JoinPaths(d, nil, a); return p }},
		{"JoinPaths with itself", func(d int64, a path, b path) path { p, _ := impl.JoinPaths(d, a, a); return p }},
		{"AreSignaturesEqual", func(d int64, a path, b path) path { impl.AreSignaturesEqual(d, 3, a, b); return nil }},
	}
	for _, k := range []int64{-1, 0, 1, 3, 1000} {
		list = append(list, pathMaker{"ScalePath", func(d int64, a path, b path) path {
			p, _ := impl.ScalePath(d, a, k)
			return p
		}})
	}
	// The others have no path in their results.
	for _, f := range functionsOfPaths() {
		list = append(list, pathMaker{f.name, func(d int64, a path, b path) path { f.call(d, a); return nil }})
	}
	return append(list, pathMaker{"StepSignature", func(d int64, a path, b path) path {
		for _, step := range a {
			impl.StepSignature(d, 3, step)
		}
		return nil
	}})
}

// memoryPath is a path with its letters.
type memoryPath struct {
	d int64
	p path
}

// memoryPaths are paths of all kinds, and what is none.
func memoryPaths() []memoryPath {
	list := []memoryPath{
		{1, path{{1}, {2}, {-3}, {0}, {5}}},
		{2, path{{1, 0}, {0, 0}, {0, 1}, {0, -1}, {2, 0}, {0, 7}}},
		{2, path{{0, 0}, {1, 2}}},
		{2, path{{1, 2}, {2, 1}, {1, 2}, {2, 1}}},
		{2, path{{100, 1}, {100, 1}}},
		{3, path{{1, 2, 3}, {2, 4, 6}, {0, 0, 1}, {0, 0, -1}, {3, 2, 1}}},
		{3, repeated(impl.MaxSteps, 1, -1, 2)},
		{2, nil},
	}
	for _, bad := range notPaths() {
		if len(bad.path) <= impl.MaxSteps+1 {
			list = append(list, memoryPath{bad.letters, bad.path})
		}
	}
	return list
}

// checkPathMakers requires of functions of paths that they write into none, and that what they return is
// memory of its own.
func checkPathMakers(t *testing.T, makers []pathMaker) {
	t.Helper()
	for _, c := range memoryPaths() {
		for _, f := range makers {
			a, b := spacious(c.p), spacious(path{flatStep(max(0, min(c.d, 4)), 3)})
			beforeA, beforeB := wholeOf(a), wholeOf(b)
			got := f.call(c.d, a, b)
			if !samePath(wholeOf(a), beforeA) || !samePath(wholeOf(b), beforeB) {
				t.Errorf("%s writes into %v or %v", f.name, c.p, b)
			}
			if shareRows(got, a) || shareRows(got, b) {
				t.Errorf("%s of %v shares its memory", f.name, c.p)
			}
			checkOwnMemory(t, f.name, got)
		}
	}
}

func TestPathsAreNeitherWrittenNorShared(t *testing.T) {
	checkPathMakers(t, pathMakers())
}

// A path may have one step at several places. What is made of it must not.
func TestResultsOfPathsWithOneStepTwice(t *testing.T) {
	step := []int64{1, 2}
	turn := []int64{2, 1}
	shared := path{step, turn, step, turn, step}
	for _, f := range pathMakers() {
		got := f.call(2, shared, shared[:2])
		for i, v := range got {
			for _, w := range got[:i] {
				if shareMemory(v, w) {
					t.Errorf("steps of %s share memory", f.name)
				}
			}
		}
	}
	if !samePath(shared, path{{1, 2}, {2, 1}, {1, 2}, {2, 1}, {1, 2}}) {
		t.Errorf("the path has become %v", shared)
	}
}

// checkPathsAgain requires of functions of paths that they return the same after a change of what they have
// returned.
func checkPathsAgain(t *testing.T, makers []pathMaker) {
	t.Helper()
	for _, c := range memoryPaths() {
		for _, f := range makers {
			first := f.call(c.d, c.p, nil)
			want := changedAfter(first)
			second := f.call(c.d, c.p, nil)
			if !samePath(second, want) || shareRows(first, second) {
				t.Errorf("%s of %v = %v, and then %v", f.name, c.p, want, second)
			}
		}
	}
}

func TestPathsDoNotDependOnCallsBefore(t *testing.T) {
	checkPathsAgain(t, pathMakers())
}

func TestSignaturesDoNotDependOnCallsBefore(t *testing.T) {
	p := path{{1, 2}, {-3, 4}}
	for name, makeSeries := range map[string]func() (impl.Series, int64){
		"StepSignature": func() (impl.Series, int64) { return impl.StepSignature(2, 3, p[0]) },
		"SignatureOf":   func() (impl.Series, int64) { return impl.SignatureOf(2, 3, p) },
		"no steps":      func() (impl.Series, int64) { return impl.SignatureOf(2, 3, nil) },
		"LogSignature":  func() (impl.Series, int64) { return impl.LogSignature(2, 3, p) },
		"MeanSignature": func() (impl.Series, int64) { return impl.MeanSignature(2, 3, p, 2) },
		"the power 0":   func() (impl.Series, int64) { return impl.MeanSignature(2, 3, p, 0) },
	} {
		first, code := makeSeries()
		want := slices.Clone(first.Terms)
		for i := range first.Terms {
			first.Terms[i] = spareTerm
		}
		second, _ := makeSeries()
		if code != impl.ErrNone || len(want) == 0 || !slices.Equal(second.Terms, want) || shareMemory(first.Terms, second.Terms) {
			t.Errorf("%s = %v, and then %v", name, want, second)
		}
	}
}
