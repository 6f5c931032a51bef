package tests

import (
	"math"
	"testing"

	"loop.example/g01260/impl"
)

// outcome is a code, and whether the other result is the zero value.
type outcome struct {
	code   int64
	isZero bool
}

func seriesOutcome(x impl.Series, code int64) outcome {
	return outcome{code, sameSeries(x, impl.Series{})}
}

func pathOutcome(p path, code int64) outcome { return outcome{code, len(p) == 0} }

func endOutcome(end []int64, code int64) outcome { return outcome{code, len(end) == 0} }

func areaOutcome(area int64, code int64) outcome { return outcome{code, area == 0} }

func equalOutcome(equal bool, code int64) outcome { return outcome{code, !equal} }

// pathFunction is a function of a path, with some other arguments.
type pathFunction struct {
	name string
	call func(d int64, p path) outcome
}

// levelFunctions are those of a path and a level.
func levelFunctions(n int64) []pathFunction {
	list := []pathFunction{
		{"SignatureOf", func(d int64, p path) outcome { return seriesOutcome(impl.SignatureOf(d, n, p)) }},
		{"LogSignature", func(d int64, p path) outcome { return seriesOutcome(impl.LogSignature(d, n, p)) }},
		{"AreSignaturesEqual to itself", func(d int64, p path) outcome {
			return equalOutcome(impl.AreSignaturesEqual(d, n, p, p))
		}},
		{"AreSignaturesEqual, first", func(d int64, p path) outcome {
			return equalOutcome(impl.AreSignaturesEqual(d, n, p, nil))
		}},
		{"AreSignaturesEqual, second", func(d int64, p path) outcome {
			return equalOutcome(impl.AreSignaturesEqual(d, n, nil, p))
		}},
	}
	for _, k := range []int64{0, 1, 8} {
		list = append(list, meanFunction(n, k))
	}
	return list
}

// meanFunction is MeanSignature with a level and a power.
func meanFunction(n int64, k int64) pathFunction {
	return pathFunction{"MeanSignature", func(d int64, p path) outcome {
		return seriesOutcome(impl.MeanSignature(d, n, p, k))
	}}
}

// scaleFunction is ScalePath with a factor.
func scaleFunction(k int64) pathFunction {
	return pathFunction{"ScalePath", func(d int64, p path) outcome { return pathOutcome(impl.ScalePath(d, p, k)) }}
}

// areaFunction is DoubleArea with two letters.
func areaFunction(i int64, k int64) pathFunction {
	return pathFunction{"DoubleArea", func(d int64, p path) outcome { return areaOutcome(impl.DoubleArea(d, p, i, k)) }}
}

// plainFunctions are those of paths alone.
func plainFunctions() []pathFunction {
	return []pathFunction{
		{"EndOf", func(d int64, p path) outcome { return endOutcome(impl.EndOf(d, p)) }},
		{"ReversePath", func(d int64, p path) outcome { return pathOutcome(impl.ReversePath(d, p)) }},
		{"ReducePath", func(d int64, p path) outcome { return pathOutcome(impl.ReducePath(d, p)) }},
		{"JoinPaths with itself", func(d int64, p path) outcome { return pathOutcome(impl.JoinPaths(d, p, p)) }},
		{"JoinPaths, first", func(d int64, p path) outcome { return pathOutcome(impl.JoinPaths(d, p, nil)) }},
		{"JoinPaths, second", func(d int64, p path) outcome { return pathOutcome(impl.JoinPaths(d, nil, p)) }},
		{"JoinPaths behind many steps", func(d int64, p path) outcome {
			return pathOutcome(impl.JoinPaths(d, repeated(impl.MaxSteps, flatStep(max(0, min(d, 4)), 1)...), p))
		}},
	}
}

// badFactors, badMeans and badPlaces are out of the ranges of ScalePath, MeanSignature and
// DoubleArea.
var (
	badFactors = []int64{math.MinInt64, -101, 101, 1000, math.MaxInt64}
	badMeans   = []int64{math.MinInt64, -1, 9, 12, math.MaxInt64}
	badPlaces  = []int64{math.MinInt64, -1, 3, 4, math.MaxInt64}
)

// functionsOfPaths are all functions, with other arguments that are in their ranges, and that are
// not.
func functionsOfPaths() []pathFunction {
	list := plainFunctions()
	for _, n := range append([]int64{1, 2, 4, 5}, badLevels...) {
		list = append(list, levelFunctions(n)...)
	}
	for _, k := range badMeans {
		list = append(list, meanFunction(2, k), meanFunction(0, k))
	}
	for _, k := range append([]int64{0, 1, -1, 100, -100}, badFactors...) {
		list = append(list, scaleFunction(k))
	}
	for _, k := range append([]int64{0, 1, 2}, badPlaces...) {
		list = append(list, areaFunction(0, k), areaFunction(k, 0), areaFunction(k, k))
	}
	return list
}

func TestFunctionsRefuseWhatIsNoPath(t *testing.T) {
	functions := functionsOfPaths()
	for _, bad := range notPaths() {
		for _, f := range functions {
			if got := f.call(bad.letters, bad.path); got != (outcome{impl.ErrInvalid, true}) {
				t.Errorf("%s(%d, %v), %s: %v", f.name, bad.letters, bad.path, bad.name, got)
			}
		}
	}
}

func TestStepSignatureRefusesWhatIsNoStep(t *testing.T) {
	for _, bad := range notPaths() {
		if len(bad.path) != 1 {
			continue
		}
		for _, n := range append([]int64{1, 2, 4, 5}, badLevels...) {
			if got := seriesOutcome(impl.StepSignature(bad.letters, n, bad.path[0])); got != (outcome{impl.ErrInvalid, true}) {
				t.Errorf("StepSignature(%d, %d, %v): %v", bad.letters, n, bad.path[0], got)
			}
		}
	}
	for d := int64(1); d <= impl.MaxLetter; d++ {
		if got := seriesOutcome(impl.StepSignature(d, 2, nil)); got != (outcome{impl.ErrInvalid, true}) {
			t.Errorf("StepSignature(%d) of nothing: %v", d, got)
		}
	}
}

// samplePaths returns paths for d letters. The signatures of the last two do not fit at the levels 4
// and 5.
func samplePaths(d int64) []path {
	return []path{nil, {flatStep(d, 0)}, {flatStep(d, 1)}, repeated(impl.MaxSteps, flatStep(d, 1)...),
		{flatStep(d, impl.MaxStep), flatStep(d, impl.MaxStep)}, repeated(impl.MaxSteps, flatStep(d, -impl.MaxStep)...)}
}

// checkRefused requires ErrRange of functions for all sample paths.
func checkRefused(t *testing.T, d int64, functions ...pathFunction) {
	t.Helper()
	for _, p := range samplePaths(d) {
		for _, f := range functions {
			if got := f.call(d, p); got != (outcome{impl.ErrRange, true}) {
				t.Errorf("%s(%d, %v): %v", f.name, d, p, got)
			}
		}
	}
}

func TestLevelsOutOfRange(t *testing.T) {
	step := func(n int64) pathFunction {
		return pathFunction{"StepSignature", func(d int64, p path) outcome {
			return seriesOutcome(impl.StepSignature(d, n, append(p, flatStep(d, impl.MaxStep))[0]))
		}}
	}
	for d := int64(1); d <= impl.MaxLetter; d++ {
		for _, n := range append([]int64{levelsOf(d) + 1}, badLevels...) {
			checkRefused(t, d, append(levelFunctions(n), step(n))...)
		}
		for n := int64(1); n <= levelsOf(d); n++ {
			for _, f := range append(levelFunctions(n), step(n)) {
				if got := f.call(d, path{flatStep(d, 1)}); got.code != impl.ErrNone {
					t.Errorf("%s(%d) at the level %d: %v", f.name, d, n, got)
				}
			}
		}
	}
}

func TestNumbersOutOfRange(t *testing.T) {
	for d := int64(1); d <= impl.MaxLetter; d++ {
		for _, k := range badFactors {
			checkRefused(t, d, scaleFunction(k))
		}
		for _, k := range badMeans {
			checkRefused(t, d, meanFunction(1, k), meanFunction(4, k), meanFunction(0, k))
		}
		for _, k := range append([]int64{d}, badPlaces...) {
			checkRefused(t, d, areaFunction(0, k), areaFunction(k, 0), areaFunction(k, k), areaFunction(d-1, k))
		}
		for i := range d {
			for k := range d {
				if got := areaFunction(i, k).call(d, path{flatStep(d, 1)}); got.code != impl.ErrNone {
					t.Errorf("DoubleArea(%d) in %d and %d: %v", d, i, k, got)
				}
			}
		}
	}
}

func TestMeansOfNoSteps(t *testing.T) {
	for d := int64(1); d <= impl.MaxLetter; d++ {
		for n := int64(1); n <= levelsOf(d); n++ {
			for k := int64(0); k <= 8; k++ {
				for _, p := range []path{nil, {}} {
					if got := meanFunction(n, k).call(d, p); got != (outcome{impl.ErrRange, true}) {
						t.Errorf("MeanSignature(%d, %d) of no steps and %d: %v", d, n, k, got)
					}
				}
			}
		}
	}
}

// A path that is none is told ahead of a level that is out of range, also if it is the second one.
func TestErrorsOfTwoPaths(t *testing.T) {
	good, bad, large := path{{1, 2}}, path{{1}}, repeated(impl.MaxSteps, 100, 100)
	for _, n := range []int64{0, 2, 5, 6} {
		for _, other := range []path{nil, good, bad, large} {
			for _, pair := range [][2]path{{other, bad}, {bad, other}} {
				got := equalOutcome(impl.AreSignaturesEqual(2, n, pair[0], pair[1]))
				if got != (outcome{impl.ErrInvalid, true}) {
					t.Errorf("AreSignaturesEqual(2, %d, %v, %v): %v", n, pair[0], pair[1], got)
				}
			}
		}
	}
	for _, pair := range [][2]path{{large, large}, {large, good}, {good, large}} {
		if got := equalOutcome(impl.AreSignaturesEqual(2, 0, pair[0], pair[1])); got != (outcome{impl.ErrRange, true}) {
			t.Errorf("AreSignaturesEqual(2, 0, %v, %v): %v", pair[0], pair[1], got)
		}
		if got := equalOutcome(impl.AreSignaturesEqual(2, 5, pair[0], pair[1])); got != (outcome{impl.ErrLimit, true}) {
			t.Errorf("AreSignaturesEqual(2, 5, %v, %v): %v", pair[0], pair[1], got)
		}
	}
	for _, pair := range [][2]path{{large, bad}, {bad, large}, {bad, bad}, {nil, bad}} {
		if got := pathOutcome(impl.JoinPaths(2, pair[0], pair[1])); got != (outcome{impl.ErrInvalid, true}) {
			t.Errorf("JoinPaths(2, %v, %v): %v", pair[0], pair[1], got)
		}
	}
}
