package tests

import (
	"math"
	"strings"
	"testing"

	"loop.example/g01260/impl"
)

func matrixOutcome(m matrix, code int64) outcome { return outcome{code, len(m) == 0} }

func tablesOutcome(tables tableList, code int64) outcome { return outcome{code, len(tables) == 0} }

func fractionOutcome(a impl.Fraction, code int64) outcome {
	return outcome{code, a == impl.Fraction{}}
}

// badTableLevels are out of the range of VanishAt.
var badTableLevels = []int64{math.MinInt64, -1, 5, 6, math.MaxInt64}

// tableFunction is a function of tables, with some other arguments.
type tableFunction struct {
	name string
	call func(d int64, tables tableList) outcome
}

// wordProduct is ProductOfWord with a word.
func wordProduct(w string) tableFunction {
	return tableFunction{"ProductOfWord", func(d int64, tables tableList) outcome {
		return pathOutcome(impl.ProductOfWord(d, tables, w))
	}}
}

// solutionFunction is SolutionAlong with a level and a path that goes along all letters.
func solutionFunction(n int64, steps int, number int64) tableFunction {
	return tableFunction{"SolutionAlong", func(d int64, tables tableList) outcome {
		return matrixOutcome(impl.SolutionAlong(d, n, repeated(steps, flatStep(max(0, min(d, 4)), number)...), tables))
	}}
}

// vanishFunction is VanishAt with a level.
func vanishFunction(level int64) tableFunction {
	return tableFunction{"VanishAt", func(d int64, tables tableList) outcome {
		return equalOutcome(impl.VanishAt(d, tables, level))
	}}
}

// commutatorFunction is TableCommutator with two letters.
func commutatorFunction(i int64, k int64) tableFunction {
	return tableFunction{"TableCommutator", func(d int64, tables tableList) outcome {
		return pathOutcome(impl.TableCommutator(d, tables, i, k))
	}}
}

// tableFunctions are all functions of a number of letters and tables, with other arguments that are in
// their ranges, and that are not.
func tableFunctions() []tableFunction {
	list := []tableFunction{{"DoTablesCommute", func(d int64, tables tableList) outcome {
		return equalOutcome(impl.DoTablesCommute(d, tables))
	}}}
	for _, w := range append([]string{"", "0", "00", "00000", "000000", strings.Repeat("0", 1000), "x000000"}, notWords...) {
		list = append(list, wordProduct(w))
	}
	for _, n := range append([]int64{1, 2, 4, 5}, badLevels...) {
		list = append(list, solutionFunction(n, 2, 1), solutionFunction(n, 12, 100), solutionFunction(n, 13, 100), solutionFunction(n, 1, 101))
	}
	for _, level := range append([]int64{0, 1, 4}, badTableLevels...) {
		list = append(list, vanishFunction(level))
	}
	for _, k := range append([]int64{0, 1, 2}, badPlaces...) {
		list = append(list, commutatorFunction(0, k), commutatorFunction(k, 0), commutatorFunction(k, k))
	}
	return list
}

// What is no tables is told ahead of all other errors.
func TestFunctionsRefuseWhatIsNoTables(t *testing.T) {
	functions := tableFunctions()
	for _, bad := range notTables() {
		for _, f := range functions {
			if got := f.call(bad.d, bad.tables); got != (outcome{impl.ErrInvalid, true}) {
				t.Errorf("%s(%d, %v), %s: %v", f.name, bad.d, bad.tables, bad.name, got)
			}
		}
	}
}

// Tables for another number of letters are none.
func TestTablesOfOtherLetters(t *testing.T) {
	functions := tableFunctions()
	for _, d := range append([]int64{1, 2, 3}, badLetters()...) {
		for count := int64(0); count <= 4; count++ {
			if count == d && d >= 1 && d <= impl.MaxLetter {
				continue
			}
			for _, f := range functions {
				if got := f.call(d, flatTables(count, 2, 2, 1)); got != (outcome{impl.ErrInvalid, true}) {
					t.Errorf("%s(%d) of %d tables: %v", f.name, d, count, got)
				}
			}
		}
	}
}

func TestValuesOfWhatIsNoSeries(t *testing.T) {
	for what, bad := range notSeries() {
		count := max(0, min(bad.Letters, 4))
		for _, tables := range []tableList{nil, flatTables(count, 2, 2, 1), flatTables(count, 1, 1, 1000), flatTables(count, 7, 7, 0), flatTables(2, 1, 1, 1001), turnTables()} {
			got, code := impl.ValueOfSeries(bad, tables)
			checkMatrixError(t, "ValueOfSeries, "+what, got, code, impl.ErrInvalid)
		}
		for _, w := range append([]string{"", "0", "01", "00", "000000", strings.Repeat("0", 1000)}, notWords...) {
			got, code := impl.ReadByTables(bad, w)
			checkFraction(t, "ReadByTables, "+what, got, code, impl.Fraction{}, impl.ErrInvalid)
		}
	}
}

// What is no tables is told ahead of what does not fit.
func TestValuesAtWhatIsNoTables(t *testing.T) {
	for _, bad := range notTables() {
		if bad.d < 1 || bad.d > impl.MaxLetter {
			continue
		}
		for _, x := range []impl.Series{{Letters: bad.d, Level: 3}, unitOf(bad.d, 1), largeSeries(bad.d, 2)} {
			got, code := impl.ValueOfSeries(x, bad.tables)
			checkMatrixError(t, "ValueOfSeries, "+bad.name, got, code, impl.ErrInvalid)
		}
	}
	for d := int64(1); d <= impl.MaxLetter; d++ {
		for count := int64(0); count <= 4; count++ {
			want := outcome{impl.ErrInvalid, true}
			if count == d {
				want = outcome{impl.ErrNone, false}
			}
			if got := matrixOutcome(impl.ValueOfSeries(mixedSeries(d, 2, 3, 4), flatTables(count, 2, 2, 1))); got != want {
				t.Errorf("ValueOfSeries of %d letters at %d tables: %v", d, count, got)
			}
		}
	}
}

// What is no path is told ahead of a level that is out of range, and of what does not fit.
func TestSolutionsAlongWhatIsNoPath(t *testing.T) {
	for _, bad := range notPaths() {
		count := max(0, min(bad.letters, 4))
		for _, n := range append([]int64{1, 5}, badLevels...) {
			for _, tables := range []tableList{nil, flatTables(count, 1, 1, 0), flatTables(count, 2, 2, 1000), flatTables(count+1, 1, 1, 0)} {
				if got := matrixOutcome(impl.SolutionAlong(bad.letters, n, bad.path, tables)); got != (outcome{impl.ErrInvalid, true}) {
					t.Errorf("SolutionAlong(%d, %d, %v, %v), %s: %v", bad.letters, n, bad.path, tables, bad.name, got)
				}
			}
		}
	}
}

// Levels out of range are told ahead of what does not fit.
func TestLevelsOutOfRangeOfTables(t *testing.T) {
	for d := int64(1); d <= impl.MaxLetter; d++ {
		for _, number := range []int64{0, 1, impl.MaxWhole} {
			for _, n := range append([]int64{levelsOf(d) + 1}, badLevels...) {
				for _, p := range samplePaths(d) {
					if got := matrixOutcome(impl.SolutionAlong(d, n, p, flatTables(d, 2, 2, number))); got != (outcome{impl.ErrRange, true}) {
						t.Errorf("SolutionAlong(%d, %d, %v): %v", d, n, p, got)
					}
				}
			}
			for _, level := range badTableLevels {
				if got := vanishFunction(level).call(d, flatTables(d, 2, 2, number)); got != (outcome{impl.ErrRange, true}) {
					t.Errorf("VanishAt(%d, %d): %v", d, level, got)
				}
			}
		}
		for n := int64(1); n <= levelsOf(d); n++ {
			if got := solutionFunction(n, 1, 1).call(d, flatTables(d, 2, 2, 1)); got != (outcome{impl.ErrNone, false}) {
				t.Errorf("SolutionAlong(%d, %d): %v", d, n, got)
			}
		}
		for level := int64(0); level <= 4; level++ {
			if got := vanishFunction(level).call(d, flatTables(d, 2, 2, 0)); got != (outcome{impl.ErrNone, false}) {
				t.Errorf("VanishAt(%d, %d): %v", d, level, got)
			}
		}
	}
}

// Texts that are no words are told ahead of their lengths, and of what does not fit.
func TestTablesOfWhatIsNoWord(t *testing.T) {
	for d := int64(1); d <= impl.MaxLetter; d++ {
		behind := string(rune('0' + d))
		texts := append([]string{behind, "0" + behind, behind + "0", "0000" + behind, "00000" + behind, behind + "00000", strings.Repeat("0", 100000) + behind}, notWords...)
		for _, w := range texts {
			for _, number := range []int64{0, impl.MaxWhole} {
				if got := wordProduct(w).call(d, flatTables(d, 2, 2, number)); got != (outcome{impl.ErrInvalid, true}) {
					t.Errorf("ProductOfWord(%d) of %.9q: %v", d, w, got)
				}
			}
			if got := tablesOutcome(impl.TablesOfWord(d, w)); got != (outcome{impl.ErrInvalid, true}) {
				t.Errorf("TablesOfWord(%d, %.9q): %v", d, w, got)
			}
			for n := int64(1); n <= levelsOf(d); n++ {
				for _, x := range []impl.Series{{Letters: d, Level: n}, unitOf(d, n), largeSeries(d, n)} {
					if got := fractionOutcome(impl.ReadByTables(x, w)); got != (outcome{impl.ErrInvalid, true}) {
						t.Errorf("ReadByTables of %v at %.9q: %v", x, w, got)
					}
				}
			}
		}
	}
}

// Letters out of range are told ahead of texts that are no words.
func TestLettersOutOfRangeOfTables(t *testing.T) {
	for _, d := range badLetters() {
		for _, w := range append([]string{"", "0", "01", "00000", "000000", "4", strings.Repeat("x", 1000)}, notWords...) {
			if got := tablesOutcome(impl.TablesOfWord(d, w)); got != (outcome{impl.ErrRange, true}) {
				t.Errorf("TablesOfWord(%d, %.9q): %v", d, w, got)
			}
		}
	}
}

// Words of 5 letters are taken, or of as many as the Level tells, and longer ones are not.
func TestLongWordsOfTables(t *testing.T) {
	eachShape(func(d int64, n int64) {
		last := string(rune('0' + d - 1))
		for length := 0; length <= 8; length++ {
			for _, w := range []string{strings.Repeat("0", length), strings.Repeat(last, length)} {
				want, wantRead := outcome{impl.ErrNone, false}, outcome{impl.ErrNone, false}
				if length > 5 {
					want = outcome{impl.ErrRange, true}
				}
				if int64(length) > n {
					wantRead = outcome{impl.ErrRange, true}
				}
				if got := wordProduct(w).call(d, flatTables(d, 2, 2, 1)); got != want {
					t.Errorf("ProductOfWord(%d) of %q: %v", d, w, got)
				}
				if got := tablesOutcome(impl.TablesOfWord(d, w)); got != want {
					t.Errorf("TablesOfWord(%d, %q): %v", d, w, got)
				}
				for _, x := range []impl.Series{{Letters: d, Level: n}, largeSeries(d, n)} {
					if got := fractionOutcome(impl.ReadByTables(x, w)); got != wantRead {
						t.Errorf("ReadByTables of %v at %q: %v", x, w, got)
					}
				}
			}
		}
		for _, w := range []string{"000000", strings.Repeat(last, 6), strings.Repeat("0", 100000)} {
			// Their products do not fit either.
			if got := wordProduct(w).call(d, flatTables(d, 2, 2, impl.MaxWhole)); got != (outcome{impl.ErrRange, true}) {
				t.Errorf("ProductOfWord(%d) of %d letters: %v", d, len(w), got)
			}
		}
	})
}

func TestLettersOfCommutators(t *testing.T) {
	for d := int64(1); d <= impl.MaxLetter; d++ {
		for i := int64(-1); i <= 4; i++ {
			for k := int64(-1); k <= 4; k++ {
				want := outcome{impl.ErrNone, false}
				if min(i, k) < 0 || max(i, k) >= d {
					want = outcome{impl.ErrRange, true}
				}
				if got := commutatorFunction(i, k).call(d, flatTables(d, 6, 6, impl.MaxWhole)); got != want {
					t.Errorf("TableCommutator(%d) of %d and %d: %v", d, i, k, got)
				}
			}
		}
		for _, bad := range badPlaces {
			for _, f := range []tableFunction{commutatorFunction(0, bad), commutatorFunction(bad, 0), commutatorFunction(bad, bad), commutatorFunction(bad, d-1)} {
				if got := f.call(d, flatTables(d, 1, 1, 0)); got != (outcome{impl.ErrRange, true}) {
					t.Errorf("TableCommutator(%d) of %d: %v", d, bad, got)
				}
			}
		}
	}
}

// notMatrices returns what is no square matrix of n rows, by what is wrong with it.
func notMatrices(n int64) map[string]matrix {
	one := fr(1, 1)
	list := map[string]matrix{
		"nothing": nil, "an empty list": {}, "a row too few": flatMatrix(n-1, n, one), "a row too much": flatMatrix(n+1, n, one),
		"rows too short": flatMatrix(n, n-1, one), "rows too long": flatMatrix(n, n+1, one), "a smaller one": flatMatrix(n-1, n-1, one),
		"a larger one": flatMatrix(n+1, n+1, one), "an empty row too much": append(flatMatrix(n, n, one), nil), "many rows": flatMatrix(1000, n, zero),
		"long rows": flatMatrix(n, 1000, zero), "a large one": flatMatrix(100, 100, zero),
	}
	for i := range n {
		for name, row := range map[string][]impl.Fraction{
			"a nil row": nil, "an empty row": {}, "a row too short": flatMatrix(1, n-1, zero)[0], "a row too long": flatMatrix(1, n+1, zero)[0],
		} {
			m := flatMatrix(n, n, fr(impl.MaxPart, 1))
			m[i] = row
			list[name+" at "+string(rune('0'+i))] = m
		}
		for k := range n {
			for j, bad := range notFractions() {
				m := flatMatrix(n, n, fr(impl.MaxPart, 1))
				m[i][k] = bad
				list["no fraction at "+string([]rune{'0' + rune(i), '0' + rune(k), 'a' + rune(j)})] = m
			}
		}
	}
	return list
}

// What is no matrix is told ahead of what does not fit, whichever of both it is.
func TestProductsOfWhatIsNoMatrix(t *testing.T) {
	for n := int64(1); n <= impl.MaxRows; n++ {
		for name, bad := range notMatrices(n) {
			for _, other := range []matrix{flatMatrix(n, n, zero), flatMatrix(n, n, fr(impl.MaxPart, 1))} {
				for _, pair := range [][2]matrix{{bad, other}, {other, bad}} {
					got, code := impl.MultiplyTables(pair[0], pair[1])
					checkMatrixError(t, "MultiplyTables, "+name, got, code, impl.ErrInvalid)
				}
			}
		}
	}
	for rows := int64(0); rows <= 8; rows++ {
		for others := int64(0); others <= 8; others++ {
			want := outcome{impl.ErrInvalid, true}
			if rows == others && rows >= 1 && rows <= 6 {
				want = outcome{impl.ErrNone, false}
			}
			if got := matrixOutcome(impl.MultiplyTables(flatMatrix(rows, rows, zero), flatMatrix(others, others, zero))); got != want {
				t.Errorf("MultiplyTables of %d and %d rows: %v", rows, others, got)
			}
			// Lists that are not square are none, also where they would go together.
			for _, pair := range [][2]matrix{
				{flatMatrix(rows, others, zero), flatMatrix(others, rows, zero)}, {flatMatrix(rows, others, zero), flatMatrix(rows, others, zero)},
			} {
				if got := matrixOutcome(impl.MultiplyTables(pair[0], pair[1])); rows != others && got != (outcome{impl.ErrInvalid, true}) {
					t.Errorf("MultiplyTables of %d rows of %d: %v", rows, others, got)
				}
			}
		}
	}
}
