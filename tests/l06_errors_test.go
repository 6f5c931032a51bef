package tests

import (
	"math"
	"strings"
	"testing"

	"loop.example/g01260/impl"
)

func termsOutcome(list []impl.Term, code int64) outcome { return outcome{code, len(list) == 0} }

// checkBracketErrors requires an error of both brackets of a word.
func checkBracketErrors(t *testing.T, d int64, n int64, w string, want int64) {
	t.Helper()
	for name, do := range bracketFunctions {
		if got := seriesOutcome(do(d, n, w)); got != (outcome{want, true}) {
			t.Errorf("%s(%d, %d, %q): %v, want %d", name, d, n, w, got, want)
		}
	}
}

// Letters out of range are told ahead of texts that are no words.
func TestLettersOutOfRangeOfBrackets(t *testing.T) {
	for _, d := range badLetters() {
		for _, n := range append([]int64{1, 2, 4, 5}, badLevels...) {
			for _, w := range append([]string{"", "0", "01", "00", "10", "1", "2", "000000", "4"}, notWords...) {
				checkBracketErrors(t, d, n, w, impl.ErrRange)
			}
		}
	}
}

// Texts that are no words are told ahead of levels out of range, and of their lengths.
func TestBracketsOfWhatIsNoWord(t *testing.T) {
	for d := int64(1); d <= impl.MaxLetter; d++ {
		behind := string(rune('0' + d))
		texts := append([]string{behind, "0" + behind, behind + "0", "00000" + behind, strings.Repeat("0", 100000) + behind}, notWords...)
		for _, n := range append([]int64{1, 2, 4, 5}, badLevels...) {
			for _, w := range texts {
				checkBracketErrors(t, d, n, w, impl.ErrInvalid)
			}
		}
	}
}

// Levels out of range, and words that are too long, are told ahead of words that are no Lyndon words.
func TestLevelsOutOfRangeOfBrackets(t *testing.T) {
	for d := int64(1); d <= impl.MaxLetter; d++ {
		for _, n := range append([]int64{levelsOf(d) + 1}, badLevels...) {
			for _, w := range []string{"", "0", "00", "00000", "000000"} {
				checkBracketErrors(t, d, n, w, impl.ErrRange)
			}
		}
	}
	checkBracketErrors(t, 3, 5, "00001", impl.ErrRange)
	checkBracketErrors(t, 2, 6, "000001", impl.ErrRange)
	eachShape(func(d int64, n int64) {
		zeros, last := strings.Repeat("0", int(n)), string(rune('0'+d-1))
		for _, w := range []string{zeros + "0", zeros + last, last + zeros, zeros + zeros, strings.Repeat("0", 100000)} {
			checkBracketErrors(t, d, n, w, impl.ErrRange)
		}
		// A word of exactly so many letters is taken, if it is of the right kind.
		for _, w := range []string{zeros, zeros[1:] + last} {
			want := int64(impl.ErrState)
			if isLeastTurn(w) {
				want = impl.ErrNone
			}
			if got := seriesOutcome(impl.BracketOf(d, n, w)); got != (outcome{want, want != impl.ErrNone}) {
				t.Errorf("BracketOf(%d, %d, %q): %v", d, n, w, got)
			}
			if got := seriesOutcome(impl.LeftBracket(d, n, w)); got != (outcome{impl.ErrNone, false}) {
				t.Errorf("LeftBracket(%d, %d, %q): %v", d, n, w, got)
			}
		}
	})
}

func TestBracketsOfOtherWords(t *testing.T) {
	for d := int64(1); d <= impl.MaxLetter; d++ {
		for n := int64(2); n <= levelsOf(d); n++ {
			last := string(rune('0' + d - 1))
			for _, w := range []string{"", "00", last + "0", last + last} {
				if got := seriesOutcome(impl.BracketOf(d, n, w)); got != (outcome{impl.ErrState, true}) {
					t.Errorf("BracketOf(%d, %d, %q): %v", d, n, w, got)
				}
			}
		}
	}
}

// coordinatesFunction is a function of coordinates for letters and a level.
type coordinatesFunction struct {
	name string
	call func(d int64, n int64, list []impl.Term) outcome
}

// coordinatesFunctions are all of them. Beside coordinates, MultiplyCoordinates has some whose series
// does not fit.
func coordinatesFunctions() []coordinatesFunction {
	type terms = []impl.Term
	large := terms{{Word: "0", Value: fr(impl.MaxPart, 1)}}
	multiply := func(d int64, n int64, a terms, b terms) outcome {
		return termsOutcome(impl.MultiplyCoordinates(d, n, a, b))
	}
	return []coordinatesFunction{
		{"SeriesOfCoordinates", func(d int64, n int64, list terms) outcome {
			return seriesOutcome(impl.SeriesOfCoordinates(d, n, list))
		}},
		{"SignatureOfCoordinates", func(d int64, n int64, list terms) outcome {
			return seriesOutcome(impl.SignatureOfCoordinates(d, n, list))
		}},
		{"InverseCoordinates", func(d int64, n int64, list terms) outcome {
			return termsOutcome(impl.InverseCoordinates(d, n, list))
		}},
		{"MultiplyCoordinates, first", func(d int64, n int64, list terms) outcome { return multiply(d, n, list, nil) }},
		{"MultiplyCoordinates, second", func(d int64, n int64, list terms) outcome { return multiply(d, n, nil, list) }},
		{"MultiplyCoordinates, both", func(d int64, n int64, list terms) outcome { return multiply(d, n, list, list) }},
		{"MultiplyCoordinates, first to large ones", func(d int64, n int64, list terms) outcome { return multiply(d, n, list, large) }},
		{"MultiplyCoordinates, second to large ones", func(d int64, n int64, list terms) outcome { return multiply(d, n, large, list) }},
	}
}

// checkRefusedCoordinates requires ErrRange of all functions of coordinates.
func checkRefusedCoordinates(t *testing.T, what string, d int64, n int64, list []impl.Term) {
	t.Helper()
	for _, f := range coordinatesFunctions() {
		if got := f.call(d, n, list); got != (outcome{impl.ErrRange, true}) {
			t.Errorf("%s(%d, %d, %v), %s: %v", f.name, d, n, list, what, got)
		}
	}
}

// onesAt returns terms with the value 1 at words.
func onesAt(words ...string) []impl.Term {
	var list []impl.Term
	for _, w := range words {
		list = append(list, impl.Term{Word: w, Value: fr(1, 1)})
	}
	return list
}

func TestShapesOutOfRangeOfCoordinates(t *testing.T) {
	for _, list := range [][]impl.Term{nil, onesAt("0"), onesAt("00"), {{Word: "0", Value: fr(impl.MaxPart, 1)}}} {
		for _, d := range badLetters() {
			for _, n := range append([]int64{1, 2, 4, 5}, badLevels...) {
				checkRefusedCoordinates(t, "letters", d, n, list)
			}
		}
		for d := int64(1); d <= impl.MaxLetter; d++ {
			for _, n := range append([]int64{levelsOf(d) + 1}, badLevels...) {
				checkRefusedCoordinates(t, "level", d, n, list)
			}
		}
	}
	eachShape(func(d int64, n int64) {
		for _, list := range [][]impl.Term{nil, onesAt("0"), onesAt(lyndonInOrder(d, n)...)} {
			for _, f := range coordinatesFunctions()[:6] {
				if got := f.call(d, n, list); got.code != impl.ErrNone {
					t.Errorf("%s(%d, %d, %v): %v", f.name, d, n, list, got)
				}
			}
		}
	})
}

// lyndonInOrder returns the Lyndon words of at most n letters in the order of words.
func lyndonInOrder(d int64, n int64) []string {
	var list []string
	for _, w := range allWords(d, n) {
		if isLeastTurn(w) {
			list = append(list, w)
		}
	}
	return list
}

func TestListsThatAreNoCoordinates(t *testing.T) {
	for what, lists := range map[string][][]impl.Term{
		"order": {onesAt("1", "0"), onesAt("01", "1"), onesAt("0", "01", "1"), onesAt("001", "01"), onesAt("0", "011", "001"),
			onesAt("0", "1", "01", "001", "011", "0")},
		"twice":      {onesAt("0", "0"), onesAt("0", "1", "1"), onesAt("01", "01"), onesAt("0", "001", "001"), onesAt("0", "1", "0")},
		"no letters": {onesAt(""), onesAt("", "0"), onesAt("0", "")},
		"not Lyndon": {onesAt("00"), onesAt("10"), onesAt("11"), onesAt("0", "00"), onesAt("01", "10"), onesAt("010"),
			onesAt("001", "010"), onesAt("000"), onesAt("101", "110")},
		"too long":     {onesAt("0001"), onesAt("0011"), onesAt("0", "1", "0111"), onesAt("0", "00101"), onesAt("0", "000001")},
		"another word": {onesAt("2"), onesAt("02"), onesAt("0", "2"), onesAt("0", "012"), onesAt("0", "3"), onesAt("01", "02")},
		"a zero value": {{{}}, {{Word: "0"}}, append(onesAt("0"), impl.Term{})},
		"the value 0": {{{Word: "0", Value: zero}}, append(onesAt("0"), impl.Term{Word: "01", Value: zero}),
			append([]impl.Term{{Word: "0", Value: zero}}, onesAt("1")...)},
	} {
		for _, list := range lists {
			checkRefusedCoordinates(t, what, 2, 3, list)
		}
	}
	for _, w := range notWords {
		checkRefusedCoordinates(t, "no word", 2, 3, onesAt(w))
		checkRefusedCoordinates(t, "no word", 2, 3, onesAt("0", w))
	}
	for _, a := range notFractions() {
		checkRefusedCoordinates(t, "no fraction", 2, 3, []impl.Term{{Word: "0", Value: a}})
		checkRefusedCoordinates(t, "no fraction", 2, 3, append(onesAt("0", "1"), impl.Term{Word: "011", Value: a}))
	}
	eachShape(func(d int64, n int64) {
		zeros, behind := strings.Repeat("0", int(n)), string(rune('0'+d))
		checkRefusedCoordinates(t, "letter", d, n, onesAt(behind))
		checkRefusedCoordinates(t, "letter", d, n, onesAt("0", behind))
		checkRefusedCoordinates(t, "too long", d, n, onesAt(zeros+string(rune('0'+d-1))))
	})
}

// Coordinates that are not as told are so ahead of a series that does not fit.
func TestCoordinatesWhoseSeriesDoesNotFit(t *testing.T) {
	large, bad := []impl.Term{{Word: "001", Value: fr(impl.MaxPart, 1)}}, onesAt("10")
	for _, f := range coordinatesFunctions() {
		want := outcome{impl.ErrLimit, true}
		if f.name == "InverseCoordinates" {
			want = outcome{impl.ErrNone, false}
		}
		if got := f.call(2, 3, large); got != want {
			t.Errorf("%s of large coordinates: %v", f.name, got)
		}
		if got := f.call(2, 2, large); got != (outcome{impl.ErrRange, true}) {
			t.Errorf("%s of large coordinates that are too long: %v", f.name, got)
		}
	}
	for _, pair := range [][2][]impl.Term{{large, bad}, {bad, large}, {bad, bad}} {
		list, code := impl.MultiplyCoordinates(2, 3, pair[0], pair[1])
		checkCoordinatesError(t, "MultiplyCoordinates", list, code, impl.ErrRange)
	}
}

func TestLieFunctionsOfWhatIsNoSeries(t *testing.T) {
	for what, bad := range notSeries() {
		// A constant that would be ErrState for a series.
		other := bad
		other.Terms = append([]impl.Term{{Word: "", Value: fr(1, 1)}, {Word: "", Value: fr(1, 1)}}, bad.Terms...)
		for _, x := range []impl.Series{bad, other} {
			list, code := impl.LieCoordinates(x)
			checkCoordinatesError(t, "LieCoordinates, "+what, list, code, impl.ErrInvalid)
			z, code := impl.DynkinMap(x)
			checkSeriesError(t, "DynkinMap, "+what, z, code, impl.ErrInvalid)
		}
	}
}

func TestJoinedSeriesErrors(t *testing.T) {
	const constant, large = "1/1*+1/2*0", "1000000000/1*0+1000000000/1*00"
	for what, bad := range notSeries() {
		for _, other := range []impl.Series{seriesOf(t, 2, 2, constant), seriesOf(t, 2, 2, large), seriesOf(t, 1, 5, "0"), {}, bad} {
			z, code := impl.JoinedSeries(bad, other)
			checkSeriesError(t, "JoinedSeries, first, "+what, z, code, impl.ErrInvalid)
			z, code = impl.JoinedSeries(other, bad)
			checkSeriesError(t, "JoinedSeries, second, "+what, z, code, impl.ErrInvalid)
		}
	}
	// Series that are not alike are told ahead of constants, of which these have some.
	for _, pair := range unlikePairs(t) {
		z, code := impl.JoinedSeries(pair[0], pair[1])
		checkSeriesError(t, "JoinedSeries", z, code, impl.ErrRange)
	}
	for _, text := range []string{constant, "1/1*", "-1/1*", "1/1000000000*", "1000000000/1*+1000000000/1*0", "-3/2*+1/1*11"} {
		x := seriesOf(t, 2, 2, text)
		// Constants are told ahead of exponentials that do not fit, also of the first series.
		for _, y := range []impl.Series{x, seriesOf(t, 2, 2, large), seriesOf(t, 2, 2, "0"), seriesOf(t, 2, 2, "1/1*0")} {
			z, code := impl.JoinedSeries(x, y)
			checkSeriesError(t, "JoinedSeries of "+text, z, code, impl.ErrState)
			z, code = impl.JoinedSeries(y, x)
			checkSeriesError(t, "JoinedSeries with "+text, z, code, impl.ErrState)
		}
	}
	z, code := impl.JoinedSeries(seriesOf(t, 2, 2, large), seriesOf(t, 2, 2, "0"))
	checkSeriesError(t, "JoinedSeries", z, code, impl.ErrLimit)
}

func TestRepeatedBracketErrors(t *testing.T) {
	for _, k := range append([]int64{1, 2, impl.MaxPower}, badPowers...) {
		do := func(x impl.Series, y impl.Series) (impl.Series, int64) { return impl.RepeatedBracket(x, y, k) }
		if 0 < k && k <= impl.MaxPower {
			checkPairErrors(t, "RepeatedBracket", do)
			continue
		}
		for what, bad := range notSeries() {
			for _, other := range []impl.Series{seriesOf(t, 2, 2, "1000000000/1*0"), seriesOf(t, 1, 5, "0"), {}, bad} {
				z, code := do(bad, other)
				checkSeriesError(t, "RepeatedBracket, first, "+what, z, code, impl.ErrInvalid)
				z, code = do(other, bad)
				checkSeriesError(t, "RepeatedBracket, second, "+what, z, code, impl.ErrInvalid)
			}
		}
		unit := unitOf(2, 2)
		for _, pair := range append(unlikePairs(t), [2]impl.Series{unit, unit}, [2]impl.Series{unit, mixedSeries(2, 2, 3, 4)}) {
			z, code := do(pair[0], pair[1])
			checkSeriesError(t, "RepeatedBracket", z, code, impl.ErrRange)
		}
	}
	// Even if no commutator is made, the series are to be alike.
	for _, pair := range unlikePairs(t) {
		z, code := impl.RepeatedBracket(pair[0], pair[1], 0)
		checkSeriesError(t, "RepeatedBracket", z, code, impl.ErrRange)
	}
	for what, bad := range notSeries() {
		z, code := impl.RepeatedBracket(bad, unitOf(2, 2), 0)
		checkSeriesError(t, "RepeatedBracket, first, "+what, z, code, impl.ErrInvalid)
		z, code = impl.RepeatedBracket(unitOf(2, 2), bad, 0)
		checkSeriesError(t, "RepeatedBracket, second, "+what, z, code, impl.ErrInvalid)
	}
}

// coordinatesOfPaths is PathCoordinates with a level.
func coordinatesOfPaths(n int64) pathFunction {
	return pathFunction{"PathCoordinates", func(d int64, p path) outcome { return termsOutcome(impl.PathCoordinates(d, n, p)) }}
}

func TestPathCoordinatesErrors(t *testing.T) {
	levels := append([]int64{1, 2, 4, 5}, badLevels...)
	for _, bad := range notPaths() {
		for _, n := range levels {
			if got := coordinatesOfPaths(n).call(bad.letters, bad.path); got != (outcome{impl.ErrInvalid, true}) {
				t.Errorf("PathCoordinates(%d, %d, %v), %s: %v", bad.letters, n, bad.path, bad.name, got)
			}
		}
	}
	for d := int64(1); d <= impl.MaxLetter; d++ {
		for _, n := range append([]int64{levelsOf(d) + 1, math.MaxInt64 - 1}, badLevels...) {
			checkRefused(t, d, coordinatesOfPaths(n))
		}
		for n := int64(1); n <= levelsOf(d); n++ {
			if got := coordinatesOfPaths(n).call(d, path{flatStep(d, 1)}); got != (outcome{impl.ErrNone, false}) {
				t.Errorf("PathCoordinates(%d, %d): %v", d, n, got)
			}
		}
	}
}
