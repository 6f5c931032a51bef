package tests

import (
	"math/rand/v2"
	"testing"

	"loop.example/g01260/impl"
)

// ofMatrix returns a matrix that a function has returned, and keeps its error.
func (c *calls) ofMatrix(m matrix, code int64) matrix {
	if c.code == impl.ErrNone {
		c.code = code
	}
	return m
}

// checkSameMatrix compares two ways to a matrix, if all fractions on them fit. It reports whether they do.
func (c *calls) checkSameMatrix(t *testing.T, name string, a matrix, b matrix) bool {
	t.Helper()
	if c.code != impl.ErrNone {
		if c.code != impl.ErrLimit {
			t.Errorf("%s: code %d", name, c.code)
		}
		return false
	}
	if len(a) == 0 || !sameMatrix(a, b) {
		t.Errorf("%s: %v, and %v", name, a, b)
	}
	return true
}

// unitMatrix returns the unit matrix for as many rows as tables have.
func unitMatrix(tables tableList) matrix {
	return wholeMatrix(unitMap(int64(len(tables[0]))))
}

func TestProductsOfWordsAreThoseOfTheirParts(t *testing.T) {
	held := 0
	eachTableSample(rand.New(rand.NewPCG(8, 20)), func(d int64, tables tableList) {
		for i, w := range allWords(d, 5) {
			if i%5 != 0 {
				continue
			}
			whole, code := impl.ProductOfWord(d, tables, w)
			for cut := range len(w) + 1 {
				var c calls
				u := wholeMatrix(c.ofPath(impl.ProductOfWord(d, tables, w[:cut])))
				if c.code != impl.ErrNone && code != impl.ErrLimit {
					t.Errorf("ProductOfWord of %q: code %d, but of %q: code %d", w, code, w[:cut], c.code)
				}
				v := wholeMatrix(c.ofPath(impl.ProductOfWord(d, tables, w[cut:])))
				c.ofPath(nil, code)
				if c.checkSameMatrix(t, w, c.ofMatrix(impl.MultiplyTables(u, v)), wholeMatrix(whole)) {
					held++
				}
			}
		}
	})
	checkHeld(t, held)
}

// coefficientIn returns the coefficient of a word, found without the program.
func coefficientIn(x impl.Series, w string) impl.Fraction {
	for _, term := range x.Terms {
		if term.Word == w {
			return term.Value
		}
	}
	return zero
}

func TestValuesAreReadByTablesOfWords(t *testing.T) {
	eachShape(func(d int64, n int64) {
		for _, x := range []impl.Series{{Letters: d, Level: n}, unitOf(d, n), mixedSeries(d, n, 3, 4), mixedSeries(d, n, 2, 7), largeSeries(d, n)} {
			for _, w := range allWords(d, n) {
				got, code := impl.ReadByTables(x, w)
				checkFraction(t, "ReadByTables at "+w, got, code, coefficientIn(x, w), impl.ErrNone)
				tables, code := impl.TablesOfWord(d, w)
				value, valueCode := impl.ValueOfSeries(x, tables)
				if code != impl.ErrNone || valueCode != impl.ErrNone || len(value) != len(w)+1 {
					t.Fatalf("ValueOfSeries at the tables of %q = %v, %d, %d", w, value, code, valueCode)
				}
				// Other places have the values at parts of the word.
				for i, row := range value {
					for k, a := range row {
						want := zero
						if i <= k {
							want = coefficientIn(x, w[i:k])
						}
						checkFraction(t, "the value at the tables of "+w, a, impl.ErrNone, want, impl.ErrNone)
					}
				}
			}
		}
	})
}

// eachVanishingSample calls a function for tables that vanish at the level of series, or at one below it.
func eachVanishingSample(t *testing.T, seed uint64, do func(r *rand.Rand, d int64, n int64, tables tableList)) {
	r := rand.New(rand.NewPCG(8, seed))
	eachShape(func(d int64, n int64) {
		for rows := int64(1); rows <= min(n+1, impl.MaxRows); rows++ {
			for range 3 {
				tables := vanishingTables(r, d, rows, 3)
				// Tables of 6 rows vanish at the level 5, for which VanishAt cannot be asked.
				if vanish, code := impl.VanishAt(d, tables, min(n, 4)); rows <= 5 && (!vanish || code != impl.ErrNone) {
					t.Fatalf("VanishAt(%d, %v, %d) = %v, %d", d, tables, min(n, 4), vanish, code)
				}
				do(r, d, n, tables)
			}
		}
	})
}

func TestValuesOfProductsAreProductsOfValues(t *testing.T) {
	held := 0
	eachVanishingSample(t, 21, func(r *rand.Rand, d int64, n int64, tables tableList) {
		x, y := smallSample(r, d, n), smallSample(r, d, n)
		var c calls
		value := func(x impl.Series) matrix { return c.ofMatrix(impl.ValueOfSeries(x, tables)) }
		left := value(c.of(impl.MultiplySeries(x, y)))
		if c.checkSameMatrix(t, "the value of a product", left, c.ofMatrix(impl.MultiplyTables(value(x), value(y)))) {
			held++
		}
	})
	checkHeld(t, held)
}

func TestReversedPathsLeadBackAlongVanishingTables(t *testing.T) {
	held := 0
	eachVanishingSample(t, 22, func(r *rand.Rand, d int64, n int64, tables tableList) {
		for _, p := range []path{nil, randomPath(r, d, 1+r.IntN(3), 3), windingPath(r, d, 2+r.IntN(4), 2)} {
			var c calls
			along := func(p path) matrix { return c.ofMatrix(impl.SolutionAlong(d, n, p, tables)) }
			there, back := along(p), along(c.ofPath(impl.ReversePath(d, p)))
			c.checkSameMatrix(t, "there and back", c.ofMatrix(impl.MultiplyTables(there, back)), unitMatrix(tables))
			if c.checkSameMatrix(t, "back and there", c.ofMatrix(impl.MultiplyTables(back, there)), unitMatrix(tables)) {
				held++
			}
		}
	})
	checkHeld(t, held)
}

func TestSolutionsAlongJoinedPathsAreProducts(t *testing.T) {
	held := 0
	eachVanishingSample(t, 23, func(r *rand.Rand, d int64, n int64, tables tableList) {
		p, q := randomPath(r, d, r.IntN(3), 3), randomPath(r, d, r.IntN(3), 3)
		var c calls
		along := func(p path) matrix { return c.ofMatrix(impl.SolutionAlong(d, n, p, tables)) }
		joined := along(c.ofPath(impl.JoinPaths(d, p, q)))
		c.checkSameMatrix(t, "the joined path", joined, c.ofMatrix(impl.MultiplyTables(along(p), along(q))))
		if c.checkSameMatrix(t, "the reduced path", along(c.ofPath(impl.ReducePath(d, p))), along(p)) {
			held++
		}
	})
	checkHeld(t, held)
}

// Without enough levels, or where tables do not vanish, paths need not lead back.
func TestReversedPathsNeedVanishingTables(t *testing.T) {
	var c calls
	for _, tables := range []tableList{{{{1}}}, layeredTables(-1, 1)} {
		there := c.ofMatrix(impl.SolutionAlong(1, 1, path{{1}}, tables))
		back := c.ofMatrix(impl.SolutionAlong(1, 1, path{{-1}}, tables))
		if product := c.ofMatrix(impl.MultiplyTables(there, back)); c.code != impl.ErrNone || sameMatrix(product, unitMatrix(tables)) {
			t.Errorf("there and back along %v is %v, %d", tables, product, c.code)
		}
	}
}

func TestSolutionsAreValuesOfSignatures(t *testing.T) {
	held := 0
	eachPromisePath(24, func(d int64, n int64, p path, _ path) {
		r := rand.New(rand.NewPCG(8, uint64(len(p))))
		tables := randomTables(r, d, 2, 3, 0)
		var c calls
		value := c.ofMatrix(impl.ValueOfSeries(c.of(impl.SignatureOf(d, n, p)), tables))
		if c.checkSameMatrix(t, "the value of the signature", c.ofMatrix(impl.SolutionAlong(d, n, p, tables)), value) {
			held++
		}
	})
	checkHeld(t, held)
}

func TestValuesAreLinear(t *testing.T) {
	held := 0
	r := rand.New(rand.NewPCG(8, 25))
	promiseSamples(func(x impl.Series, y impl.Series, _ impl.Series) {
		tables := randomTables(r, x.Letters, 3, 2, 1)
		var c calls
		value := func(x impl.Series) matrix { return c.ofMatrix(impl.ValueOfSeries(x, tables)) }
		sum, twice, a, b := value(c.of(impl.AddSeries(x, y))), value(c.of(impl.ScaleSeries(x, fr(-2, 3)))), value(x), value(y)
		if c.code != impl.ErrNone {
			return
		}
		held++
		for i := range a {
			for k := range a[i] {
				got, code := impl.AddFractions(a[i][k], b[i][k])
				checkFraction(t, "the value of a sum", sum[i][k], impl.ErrNone, got, code)
				got, code = impl.MultiplyFractions(a[i][k], fr(-2, 3))
				checkFraction(t, "the value of a multiple", twice[i][k], impl.ErrNone, got, code)
			}
		}
	})
	checkHeld(t, held)
}

// The commutator of tables is the value of that of both letters, and tables commute if all of these are 0.
func TestCommutatorsOfTablesAreValuesOfCommutators(t *testing.T) {
	eachTableSample(rand.New(rand.NewPCG(8, 26)), func(d int64, tables tableList) {
		allZero := true
		for i := range d {
			for k := range d {
				var c calls
				bracket := c.of(impl.CommutatorOf(c.of(impl.LetterSeries(d, 2, i)), c.of(impl.LetterSeries(d, 2, k))))
				value := c.ofMatrix(impl.ValueOfSeries(bracket, tables))
				commutator := wholeMatrix(c.ofPath(impl.TableCommutator(d, tables, i, k)))
				if !c.checkSameMatrix(t, "the commutator", commutator, value) {
					t.Errorf("TableCommutator(%d, %v, %d, %d): code %d", d, tables, i, k, c.code)
				}
				allZero = allZero && matrixModel(commutator).isZero()
			}
		}
		if got, code := impl.DoTablesCommute(d, tables); got != allZero || code != impl.ErrNone {
			t.Errorf("DoTablesCommute(%d, %v) = %v, %d", d, tables, got, code)
		}
	})
}

// A series that is mapped has the value of the series at sums of tables.
func TestValuesOfMappedSeries(t *testing.T) {
	held := 0
	eachPromiseMap(28, func(r *rand.Rand, m mapBetween, n int64) {
		tables := randomTables(r, m.e, 2, 2, 1)
		mixed := flatTables(m.d, 2, 2, 0)
		for i, row := range m.rows {
			for letter, number := range row {
				for j := range 2 {
					for k := range 2 {
						mixed[i][j][k] += number * tables[letter][j][k]
					}
				}
			}
		}
		x := smallSample(r, m.d, n)
		var c calls
		mapped := c.ofMatrix(impl.ValueOfSeries(m.of(&c, x), tables))
		if c.checkSameMatrix(t, "the value of a mapped series", mapped, c.ofMatrix(impl.ValueOfSeries(x, mixed))) {
			held++
		}
	})
	checkHeld(t, held)
}

func TestMatrixProductsAreAssociative(t *testing.T) {
	held := 0
	r := rand.New(rand.NewPCG(8, 27))
	for n := int64(1); n <= impl.MaxRows; n++ {
		for range 40 {
			x, y, z := randomMatrix(r, n, 4, 3), randomMatrix(r, n, 4, 2), randomMatrix(r, n, 4, 3)
			var c calls
			times := func(a matrix, b matrix) matrix { return c.ofMatrix(impl.MultiplyTables(a, b)) }
			unit := wholeMatrix(unitMap(n))
			c.checkSameMatrix(t, "x and the unit", times(x, unit), x)
			c.checkSameMatrix(t, "the unit and x", times(unit, x), x)
			if c.checkSameMatrix(t, "(x y) z and x (y z)", times(times(x, y), z), times(x, times(y, z))) {
				held++
			}
		}
	}
	checkHeld(t, held)
}
