package tests

import (
	"math"
	"slices"
	"testing"

	"loop.example/g01260/impl"
)

// path is a path, or a list that may be none.
type path = [][]int64

// repeated returns a path with one step a number of times.
func repeated(times int, step ...int64) path {
	var p path
	for range times {
		p = append(p, slices.Clone(step))
	}
	return p
}

// flatStep returns a step for d letters with the same number for all.
func flatStep(d int64, number int64) []int64 {
	return slices.Repeat([]int64{number}, int(d))
}

// samePath reports whether two paths are equal.
func samePath(a path, b path) bool {
	return slices.EqualFunc(a, b, slices.Equal[[]int64])
}

// checkPath compares a result with a path.
func checkPath(t *testing.T, name string, got path, code int64, want path) {
	t.Helper()
	if code != impl.ErrNone || !samePath(got, want) {
		t.Errorf("%s = %v, %d, want %v", name, got, code, want)
	}
}

// checkPathError compares a result with an error code and no path beside it.
func checkPathError(t *testing.T, name string, got path, code int64, want int64) {
	t.Helper()
	if code != want || len(got) != 0 {
		t.Errorf("%s = %v, %d, want no steps and %d", name, got, code, want)
	}
}

// namedPath is a list with letters for which it may be no path.
type namedPath struct {
	name    string
	letters int64
	path    path
}

// notPaths returns what is no path, by what is wrong with it.
func notPaths() []namedPath {
	var list []namedPath
	for _, d := range badLetters() {
		for _, p := range []path{nil, {}, {{}}, {{0}}, {{0, 0}}, {{1, 2, 3}}, {{0, 0, 0, 0}}, {{1, 2, 3, 4}}} {
			list = append(list, namedPath{"letters out of range", d, p})
		}
	}
	for d := int64(1); d <= impl.MaxLetter; d++ {
		zeros, most := flatStep(d, 0), flatStep(d, impl.MaxStep)
		list = append(list,
			namedPath{"a step too much", d, repeated(impl.MaxSteps+1, zeros...)},
			namedPath{"a large step too much", d, repeated(impl.MaxSteps+1, most...)},
			namedPath{"many steps", d, repeated(1000, zeros...)},
			namedPath{"a nil step", d, path{nil}},
			namedPath{"an empty step", d, path{{}}},
			namedPath{"an empty step behind", d, path{most, zeros, {}}},
			namedPath{"a number too much", d, path{flatStep(d+1, 0)}},
			namedPath{"a number too much behind", d, path{most, flatStep(d+1, 0), zeros}},
			namedPath{"a number too much ahead", d, path{flatStep(d+1, 0), zeros}},
			namedPath{"a number too few", d, path{flatStep(d-1, 1)}},
			namedPath{"a number too few behind", d, path{most, flatStep(d-1, 1)}},
			namedPath{"many numbers", d, path{flatStep(1000, 0)}})
		for _, number := range []int64{impl.MaxStep + 1, -impl.MaxStep - 1, math.MaxInt64, math.MinInt64, math.MinInt64 + 1} {
			for i := range d {
				step := flatStep(d, 0)
				step[i] = number
				list = append(list, namedPath{"too great a number", d, path{step}},
					namedPath{"too great a number ahead", d, path{step, zeros, most}},
					namedPath{"too great a number behind", d, append(repeated(impl.MaxSteps-1, zeros...), step)})
			}
		}
	}
	return list
}

func TestIsPath(t *testing.T) {
	for _, bad := range notPaths() {
		if impl.IsPath(bad.letters, bad.path) {
			t.Errorf("IsPath(%d, %v), %s", bad.letters, bad.path, bad.name)
		}
	}
	for d := int64(1); d <= impl.MaxLetter; d++ {
		for _, number := range []int64{0, 1, -1, impl.MaxStep, -impl.MaxStep} {
			for steps := 0; steps <= impl.MaxSteps; steps++ {
				if p := repeated(steps, flatStep(d, number)...); !impl.IsPath(d, p) {
					t.Errorf("IsPath(%d, %v) = false", d, p)
				}
			}
		}
	}
	for _, c := range []namedPath{
		{"", 1, nil}, {"", 3, path{}}, {"", 1, path{{5}}}, {"", 2, path{{100, -100}, {0, 0}, {-3, 7}}},
		{"", 3, path{{1, 2, 3}, {100, 99, -100}}},
	} {
		if !impl.IsPath(c.letters, c.path) {
			t.Errorf("IsPath(%d, %v) = false", c.letters, c.path)
		}
	}
}

func TestEndOf(t *testing.T) {
	for _, c := range []struct {
		d    int64
		p    path
		want []int64
	}{
		{1, nil, []int64{0}},
		{2, path{}, []int64{0, 0}},
		{3, path{}, []int64{0, 0, 0}},
		{1, path{{5}}, []int64{5}},
		{1, path{{5}, {-5}}, []int64{0}},
		{2, path{{1, 2}, {30, -40}}, []int64{31, -38}},
		{3, path{{1, 2, 3}, {10, 20, 30}, {100, -100, 0}}, []int64{111, -78, 33}},
		{3, path{{0, 0, 0}}, []int64{0, 0, 0}},
		// An end is no step, and may be farther away than a step leads.
		{1, path{{100}, {1}}, []int64{101}},
		{1, repeated(12, 100), []int64{1200}},
		{2, repeated(12, -100, 100), []int64{-1200, 1200}},
		{3, repeated(12, 100, 0, -100), []int64{1200, 0, -1200}},
	} {
		got, code := impl.EndOf(c.d, c.p)
		if code != impl.ErrNone || !slices.Equal(got, c.want) {
			t.Errorf("EndOf(%d, %v) = %v, %d, want %v", c.d, c.p, got, code, c.want)
		}
	}
}

func TestReversePath(t *testing.T) {
	for _, c := range []struct {
		d       int64
		p, want path
	}{
		{1, nil, nil},
		{3, path{}, nil},
		{1, path{{5}}, path{{-5}}},
		{2, path{{1, 2}, {3, -4}, {0, 0}}, path{{0, 0}, {-3, 4}, {-1, -2}}},
		{3, path{{1, 2, 3}, {100, -100, 0}}, path{{-100, 100, 0}, {-1, -2, -3}}},
		{1, repeated(12, 100), repeated(12, -100)},
	} {
		got, code := impl.ReversePath(c.d, c.p)
		checkPath(t, "ReversePath", got, code, c.want)
		back, code := impl.ReversePath(c.d, got)
		checkPath(t, "ReversePath twice", back, code, c.p)
	}
}

func TestJoinPaths(t *testing.T) {
	for _, c := range []struct {
		d          int64
		a, b, want path
	}{
		{1, nil, nil, nil},
		{2, path{{1, 2}}, nil, path{{1, 2}}},
		{2, nil, path{{1, 2}}, path{{1, 2}}},
		{2, path{{1, 2}, {3, 4}}, path{{5, 6}}, path{{1, 2}, {3, 4}, {5, 6}}},
		// Joined paths are not reduced.
		{1, path{{1}, {0}}, path{{0}, {-1}}, path{{1}, {0}, {0}, {-1}}},
		{1, path{{100}}, path{{100}}, path{{100}, {100}}},
		{3, path{{1, 2, 3}}, path{{-1, -2, -3}}, path{{1, 2, 3}, {-1, -2, -3}}},
	} {
		got, code := impl.JoinPaths(c.d, c.a, c.b)
		checkPath(t, "JoinPaths", got, code, c.want)
	}
	for ahead := 0; ahead <= impl.MaxSteps; ahead++ {
		for behind := 0; behind <= impl.MaxSteps; behind++ {
			a, b := repeated(ahead, 1, 2), repeated(behind, -100, 100)
			got, code := impl.JoinPaths(2, a, b)
			if ahead+behind > impl.MaxSteps {
				checkPathError(t, "JoinPaths", got, code, impl.ErrLimit)
				continue
			}
			checkPath(t, "JoinPaths", got, code, slices.Concat(a, b))
		}
	}
}

func TestScalePath(t *testing.T) {
	for _, c := range []struct {
		d, k    int64
		p, want path
	}{
		{1, 3, nil, nil},
		{1, 3, path{{2}}, path{{6}}},
		{2, 1, path{{1, 2}, {3, -4}}, path{{1, 2}, {3, -4}}},
		{2, -1, path{{1, 2}, {3, -4}}, path{{-1, -2}, {-3, 4}}},
		{2, 0, path{{100, 2}, {3, -100}}, path{{0, 0}, {0, 0}}},
		{3, 7, path{{1, 2, 3}, {-14, 14, 0}}, path{{7, 14, 21}, {-98, 98, 0}}},
		{1, 2, path{{50}}, path{{100}}},
		{1, -2, path{{50}}, path{{-100}}},
		{1, 100, path{{1}, {-1}, {0}}, path{{100}, {-100}, {0}}},
		{1, -100, path{{1}, {-1}, {0}}, path{{-100}, {100}, {0}}},
		{2, 1, repeated(12, 100, -100), repeated(12, 100, -100)},
		{2, -1, repeated(12, 100, -100), repeated(12, -100, 100)},
	} {
		got, code := impl.ScalePath(c.d, c.p, c.k)
		checkPath(t, "ScalePath", got, code, c.want)
	}
	for _, c := range []struct {
		d, k int64
		p    path
	}{
		{1, 2, path{{51}}},
		{1, 2, path{{-51}}},
		{1, -2, path{{51}}},
		{1, 100, path{{2}}},
		{1, -100, path{{2}}},
		{1, 100, path{{100}}},
		{1, 2, path{{50}, {51}}},
		{2, 4, path{{25, 26}}},
		{3, 4, path{{25, 25, -26}}},
		{3, 4, path{{26, 0, 0}, {0, 0, 0}}},
		{1, 2, append(repeated(11, 0), []int64{51})},
	} {
		got, code := impl.ScalePath(c.d, c.p, c.k)
		checkPathError(t, "ScalePath", got, code, impl.ErrLimit)
	}
}

func TestDoubleArea(t *testing.T) {
	for _, c := range []struct {
		d, i, k int64
		p       path
		want    int64
	}{
		{1, 0, 0, nil, 0},
		{1, 0, 0, path{{5}, {7}}, 0},
		{2, 0, 1, nil, 0},
		{2, 0, 1, path{{3, 4}}, 0},
		{2, 0, 1, path{{1, 0}, {0, 1}}, 1},
		{2, 1, 0, path{{1, 0}, {0, 1}}, -1},
		{2, 1, 1, path{{1, 0}, {0, 1}}, 0},
		{2, 0, 1, path{{1, 0}, {0, 1}, {-1, 0}, {0, -1}}, 2},
		{2, 0, 1, path{{0, 1}, {1, 0}, {0, -1}, {-1, 0}}, -2},
		{2, 0, 1, path{{2, 3}, {5, 7}}, -1},
		{2, 0, 1, path{{2, 3}, {5, 7}, {-1, 4}}, 37},
		{3, 0, 2, path{{1, 9, 0}, {0, 9, 1}}, 1},
		{3, 1, 2, path{{9, 1, 0}, {9, 0, 1}}, 1},
		{3, 2, 1, path{{9, 1, 0}, {9, 0, 1}}, -1},
		{3, 0, 1, path{{9, 1, 0}, {9, 0, 1}}, -9},
		{2, 0, 1, repeated(12, 100, -100), 0},
		{2, 0, 1, append(repeated(6, 100, 0), repeated(6, 0, 100)...), 360000},
		{2, 1, 0, append(repeated(6, 100, 100), repeated(6, -100, 100)...), -720000},
	} {
		got, code := impl.DoubleArea(c.d, c.p, c.i, c.k)
		if code != impl.ErrNone || got != c.want {
			t.Errorf("DoubleArea(%d, %v, %d, %d) = %d, %d, want %d", c.d, c.p, c.i, c.k, got, code, c.want)
		}
	}
}
