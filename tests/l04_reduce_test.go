package tests

import (
	"math/rand/v2"
	"slices"
	"testing"

	"loop.example/g01260/impl"
)

func TestReducePath(t *testing.T) {
	for _, c := range []struct {
		d       int64
		p, want path
	}{
		{1, nil, nil},
		{3, path{}, nil},
		{2, path{{1, 2}, {2, 4}}, path{{3, 6}}},
		{1, path{{5}}, path{{5}}},
		{1, path{{0}}, nil},
		{3, path{{0, 0, 0}}, nil},
		{2, repeated(12, 0, 0), nil},
		{2, path{{0, 0}, {1, 2}}, path{{1, 2}}},
		{2, path{{1, 2}, {0, 0}}, path{{1, 2}}},
		{2, path{{1, 2}, {0, 0}, {2, 1}}, path{{1, 2}, {2, 1}}},
		{2, path{{1, 2}, {0, 0}, {2, 4}}, path{{3, 6}}},
		{1, path{{1}, {2}, {3}}, path{{6}}},
		{1, path{{1}, {-1}}, nil},
		{1, path{{1}, {-1}, {1}}, path{{1}}},
		{2, path{{1, 2}, {-1, -2}}, nil},
		{2, path{{2, 4}, {-3, -6}}, path{{-1, -2}}},
		// Multiples need not be by whole numbers.
		{2, path{{2, 4}, {3, 6}}, path{{5, 10}}},
		{3, path{{6, -4, 2}, {9, -6, 3}}, path{{15, -10, 5}}},
		{2, path{{1, 2}, {2, 5}}, path{{1, 2}, {2, 5}}},
		{2, path{{1, 0}, {0, 1}}, path{{1, 0}, {0, 1}}},
		{2, path{{1, 1}, {1, -1}}, path{{1, 1}, {1, -1}}},
		{2, path{{0, 3}, {0, 4}}, path{{0, 7}}},
		// Only some pairs of letters agree.
		{3, path{{1, 2, 0}, {2, 4, 1}}, path{{1, 2, 0}, {2, 4, 1}}},
		{3, path{{1, 0, 2}, {2, 1, 4}}, path{{1, 0, 2}, {2, 1, 4}}},
		{3, path{{0, 1, 2}, {1, 2, 4}}, path{{0, 1, 2}, {1, 2, 4}}},
		{3, path{{1, 0, 0}, {0, 1, 0}}, path{{1, 0, 0}, {0, 1, 0}}},
		{3, path{{0, 0, 3}, {0, 0, -4}}, path{{0, 0, -1}}},
		// What is left comes together.
		{2, path{{1, 0}, {0, 1}, {0, -1}, {-1, 0}}, nil},
		{2, path{{1, 0}, {0, 1}, {0, -1}, {2, 0}}, path{{3, 0}}},
		{2, path{{1, 0}, {0, 1}, {1, 1}, {-1, -1}, {0, -2}}, path{{1, 0}, {0, -1}}},
		{3, path{{1, 0, 0}, {0, 1, 0}, {0, 0, 1}, {0, 0, -1}, {0, -1, 0}, {-1, 0, 0}}, nil},
		{2, path{{1, 0}, {0, 1}, {-1, 0}, {0, -1}}, path{{1, 0}, {0, 1}, {-1, 0}, {0, -1}}},
		{2, path{{1, 0}, {0, 1}, {-1, 0}, {0, -1}, {0, 1}, {1, 0}, {0, -1}, {-1, 0}}, nil},
		{1, repeated(12, 8), path{{96}}},
	} {
		got, code := impl.ReducePath(c.d, c.p)
		checkPath(t, "ReducePath", got, code, c.want)
	}
}

func TestReductionsAtTheLimit(t *testing.T) {
	for _, c := range []struct {
		d       int64
		p, want path
	}{
		{1, path{{50}, {50}}, path{{100}}},
		{1, path{{-50}, {-50}}, path{{-100}}},
		{1, path{{100}, {-100}, {100}}, path{{100}}},
		{1, path{{-100}, {100}, {100}}, path{{100}}},
		{1, path{{60}, {-60}, {60}, {40}}, path{{100}}},
		{1, path{{0}, {100}, {0}}, path{{100}}},
		{2, path{{50, 20}, {50, 20}}, path{{100, 40}}},
		{3, path{{0, 0, 30}, {0, 0, 70}}, path{{0, 0, 100}}},
		// Steps that are not multiples of each other are not added, however large they are.
		{2, path{{100, 100}, {100, 99}}, path{{100, 100}, {100, 99}}},
		// The first place is that of 60, 0 and -60, 0.
		{2, path{{60, 0}, {-60, 0}, {0, 1}, {0, -1}, {60, 0}}, path{{60, 0}}},
		// The first place is that of 0, 1 and 0, -1; then 60, 0 and -60, 0 stand together.
		{2, path{{60, 0}, {0, 1}, {0, -1}, {-60, 0}, {60, 0}}, path{{60, 0}}},
	} {
		got, code := impl.ReducePath(c.d, c.p)
		checkPath(t, "ReducePath", got, code, c.want)
	}
	for _, c := range []namedPath{
		{"one more than the limit", 1, path{{50}, {51}}},
		{"one less than the limit", 1, path{{-50}, {-51}}},
		{"the second letter", 2, path{{20, 50}, {22, 55}}},
		{"the second letter alone", 2, path{{10, 100}, {1, 10}}},
		{"the third letter", 3, path{{0, 10, -100}, {0, 1, -10}}},
		{"far too great", 1, repeated(12, 100)},
		{"behind others", 2, path{{1, 2}, {2, 1}, {100, 0}, {100, 0}}},
		{"a sum on the way", 1, path{{100}, {100}, {-100}}},
		{"a sum on the way that leads to nothing", 1, path{{60}, {60}, {-60}, {-60}}},
		{"a sum behind zeros", 1, path{{0}, {100}, {0}, {1}, {-1}}},
		{"a sum over a step that vanishes", 2, path{{60, 0}, {0, 1}, {0, -1}, {60, 0}, {-60, 0}}},
		{"a sum over a step of zeros", 2, path{{60, 0}, {0, 0}, {60, 0}, {-60, 0}}},
		{"a sum ahead of a step that vanishes", 2, path{{60, 0}, {60, 0}, {0, 1}, {0, -1}, {-60, 0}}},
	} {
		got, code := impl.ReducePath(c.letters, c.path)
		checkPathError(t, "ReducePath, "+c.name, got, code, impl.ErrLimit)
	}
}

// areMultiples reports whether v(i) w(k) = v(k) w(i) for all i and k.
func areMultiples(v []int64, w []int64) bool {
	for i := range v {
		for k := range v {
			if v[i]*w[k] != v[k]*w[i] {
				return false
			}
		}
	}
	return true
}

// isStill reports whether a step has zeros alone.
func isStill(step []int64) bool {
	return !slices.ContainsFunc(step, func(number int64) bool { return number != 0 })
}

// places returns the places of a path that a reduction may change.
func places(p path) []int {
	var list []int
	for i := range p {
		if isStill(p[i]) || i+1 < len(p) && areMultiples(p[i], p[i+1]) {
			list = append(list, i)
		}
	}
	return list
}

// changedAt returns a path with a place changed, and whether the sum that it may need is a step.
func changedAt(p path, i int) (path, bool) {
	if isStill(p[i]) {
		return slices.Concat(p[:i], p[i+1:]), true
	}
	sum := slices.Clone(p[i])
	fits := true
	for k := range sum {
		sum[k] += p[i+1][k]
		fits = fits && max(sum[k], -sum[k]) <= impl.MaxStep
	}
	return slices.Concat(p[:i], path{sum}, p[i+2:]), fits
}

// reduction returns the reduced path, one change after the other at a chosen place, and whether all
// sums on the way are steps.
func reduction(p path, choose func(list []int) int) (path, bool) {
	for {
		list := places(p)
		if len(list) == 0 {
			return p, true
		}
		next, fits := changedAt(p, choose(list))
		if !fits {
			return nil, false
		}
		p = next
	}
}

func firstPlace(list []int) int { return list[0] }

func lastPlace(list []int) int { return list[len(list)-1] }

// reductionTally counts how reductions came out, and where other places would have led elsewhere.
type reductionTally struct{ fit, tooGreat, byOrder int }

// check compares ReducePath with the reduction at first places.
func (c *reductionTally) check(t *testing.T, d int64, p path) {
	t.Helper()
	got, code := impl.ReducePath(d, p)
	want, fits := reduction(p, firstPlace)
	if _, other := reduction(p, lastPlace); other != fits {
		c.byOrder++
	}
	if !fits {
		c.tooGreat++
		checkPathError(t, "ReducePath", got, code, impl.ErrLimit)
		return
	}
	c.fit++
	checkPath(t, "ReducePath", got, code, want)
}

// checkTally requires that each outcome was met.
func (c *reductionTally) checkTally(t *testing.T) {
	t.Helper()
	if c.fit < 500 || c.tooGreat < 100 || c.byOrder < 50 {
		t.Errorf("only %d reductions fit, %d do not, and %d depend on the order", c.fit, c.tooGreat, c.byOrder)
	}
}

// eachPath calls a function for all paths of n of the given steps.
func eachPath(n int, steps path, do func(p path)) {
	if n == 0 {
		do(nil)
		return
	}
	eachPath(n-1, steps, func(p path) {
		for _, step := range steps {
			do(append(slices.Clone(p), step))
		}
	})
}

func TestReductionsOfAllSmallPaths(t *testing.T) {
	for d, steps := range map[int64]path{
		1: {{0}, {1}, {-1}, {60}, {-60}},
		2: {{0, 0}, {1, 1}, {-1, -1}, {60, 0}, {-60, 0}, {0, 70}},
		3: {{0, 0, 0}, {1, 1, 2}, {1, 1, 1}, {0, 60, 0}, {0, -60, 0}, {0, 0, -60}},
	} {
		var c reductionTally
		for n := range 6 {
			eachPath(n, steps, func(p path) { c.check(t, d, p) })
		}
		c.checkTally(t)
	}
}

// windingPath returns a path with steps in few directions, so that many of them vanish.
func windingPath(r *rand.Rand, d int64, steps int, most int64) path {
	var p path
	for range steps {
		step := flatStep(d, 0)
		step[r.Int64N(d)] = r.Int64N(2*most+1) - most
		if r.IntN(6) == 0 {
			step = flatStep(d, r.Int64N(2*most+1)-most)
		}
		p = append(p, step)
		if r.IntN(3) == 0 && len(p) < steps {
			opposite := slices.Clone(step)
			for i := range opposite {
				opposite[i] = -opposite[i]
			}
			p = append(p, opposite)
		}
	}
	return p[:steps]
}

func TestReductionsOfLongPaths(t *testing.T) {
	r := rand.New(rand.NewPCG(4, 1))
	var c reductionTally
	for range 3000 {
		d := r.Int64N(impl.MaxLetter) + 1
		c.check(t, d, windingPath(r, d, r.IntN(impl.MaxSteps+1), []int64{1, 2, 30, 60, 100}[r.IntN(5)]))
	}
	c.checkTally(t)
}

func TestReducedPathsHaveNothingToReduce(t *testing.T) {
	r := rand.New(rand.NewPCG(4, 2))
	for range 1000 {
		d := r.Int64N(impl.MaxLetter) + 1
		reduced, code := impl.ReducePath(d, windingPath(r, d, r.IntN(impl.MaxSteps+1), 8))
		if code != impl.ErrNone || !impl.IsPath(d, reduced) || len(places(reduced)) != 0 {
			t.Errorf("ReducePath for %d = %v, %d", d, reduced, code)
		}
		again, code := impl.ReducePath(d, reduced)
		checkPath(t, "ReducePath again", again, code, reduced)
	}
}
