package tests

import (
	"math/big"
	"math/rand/v2"
	"testing"

	"loop.example/g01260/impl"
)

// ratMatrix is a matrix of exact numbers, and whether all numbers on the way to it fit. It goes on where
// one does not fit.
type ratMatrix struct {
	rows [][]*big.Rat
	fits bool
}

// zeroModel returns a matrix of zeros.
func zeroModel(n int) ratMatrix {
	m := ratMatrix{nil, true}
	for range n {
		var row []*big.Rat
		for range n {
			row = append(row, new(big.Rat))
		}
		m.rows = append(m.rows, row)
	}
	return m
}

// rowsModel returns whole numbers.
func rowsModel(rows rowList) ratMatrix {
	m := zeroModel(len(rows))
	for i, row := range rows {
		for k, number := range row {
			m.rows[i][k].SetInt64(number)
		}
	}
	return m
}

// matrixModel returns the exact numbers of a matrix.
func matrixModel(a matrix) ratMatrix {
	m := zeroModel(len(a))
	for i, row := range a {
		for k, value := range row {
			m.rows[i][k] = bigOf(value)
		}
	}
	return m
}

// add adds the product of two numbers at a place.
func (m *ratMatrix) add(i int, k int, a *big.Rat, b *big.Rat) {
	product := new(big.Rat).Mul(a, b)
	m.rows[i][k] = new(big.Rat).Add(m.rows[i][k], product)
	m.fits = m.fits && isFitting(product) && isFitting(m.rows[i][k])
}

// times returns the product, each entry being a sum from the first row and column on.
func (m ratMatrix) times(other ratMatrix) ratMatrix {
	product := zeroModel(len(m.rows))
	for i, row := range m.rows {
		for k := range row {
			for j, a := range row {
				product.add(i, k, a, other.rows[j][k])
			}
		}
	}
	return product
}

// isZero reports whether all numbers are 0.
func (m ratMatrix) isZero() bool {
	for _, row := range m.rows {
		for _, a := range row {
			if a.Sign() != 0 {
				return false
			}
		}
	}
	return true
}

// less returns the matrix less another one.
func (m ratMatrix) less(other ratMatrix) ratMatrix {
	difference := zeroModel(len(m.rows))
	for i, row := range m.rows {
		for k, a := range row {
			difference.rows[i][k].Sub(a, other.rows[i][k])
		}
	}
	return difference
}

// alongWord returns the product of a word. It fits if the products of all its beginnings, of which only
// the entries have to fit, are within the limit.
func alongWord(tables tableList, w string) ratMatrix {
	limit, fits := big.NewRat(maxEntry, 1), true
	product := rowsModel(unitMap(int64(len(tables[0]))))
	for _, letter := range []byte(w) {
		product = product.times(rowsModel(tables[letter-'0']))
		for _, row := range product.rows {
			for _, a := range row {
				fits = fits && new(big.Rat).Abs(a).Cmp(limit) <= 0
			}
		}
	}
	product.fits = fits
	return product
}

// valueModel returns the value of a model of a series at tables.
func valueModel(m model, tables tableList) ratMatrix {
	sum := zeroModel(len(tables[0]))
	sum.fits = m.fits
	for _, w := range allWords(m.d, m.n) {
		if m.at[w].Sign() == 0 {
			continue
		}
		product := alongWord(tables, w)
		sum.fits = sum.fits && product.fits
		for i, row := range product.rows {
			for k, number := range row {
				sum.add(i, k, m.at[w], number)
			}
		}
	}
	return sum
}

// matrix returns the matrix, and whether its own numbers fit.
func (m ratMatrix) matrix() (matrix, bool) {
	var result matrix
	for _, row := range m.rows {
		var list []impl.Fraction
		for _, a := range row {
			value, code := fitted(a)
			if code != impl.ErrNone {
				return nil, false
			}
			list = append(list, value)
		}
		result = append(result, list)
	}
	return result, true
}

// checkMatrix compares a matrix with a model.
func (c *tally) checkMatrix(t *testing.T, name string, got matrix, code int64, want ratMatrix) {
	t.Helper()
	exact, fits := want.matrix()
	switch {
	case want.fits:
		c.fit++
		if code != impl.ErrNone || !sameMatrix(got, exact) {
			t.Errorf("%s = %v, %d, want %v", name, got, code, exact)
		}
		return
	case fits:
		c.onTheWay++
	default:
		c.tooLarge++
	}
	checkMatrixError(t, name, got, code, impl.ErrLimit)
}

// randomTables returns tables for d letters with numbers of at most a size, of which about so many thirds
// as zeros tells are 0.
func randomTables(r *rand.Rand, d int64, n int64, most int64, zeros int) tableList {
	var tables tableList
	for range d {
		tables = append(tables, randomMap(r, n, n, most, zeros))
	}
	return tables
}

// vanishingTables returns tables with numbers above the diagonal alone, whose products vanish at the level
// n - 1, with their rows and columns in another order.
func vanishingTables(r *rand.Rand, d int64, n int64, most int64) tableList {
	order := r.Perm(int(n))
	tables := flatTables(d, n, n, 0)
	for _, table := range tables {
		for i := range order {
			for k := range i {
				table[order[k]][order[i]] = r.Int64N(2*most+1) - most
			}
		}
	}
	return tables
}

// eachTableSample calls a function for tables of all numbers of letters and rows.
func eachTableSample(r *rand.Rand, do func(d int64, tables tableList)) {
	for d := int64(1); d <= impl.MaxLetter; d++ {
		for n := int64(1); n <= impl.MaxRows; n++ {
			do(d, randomTables(r, d, n, 2, 1))
			do(d, randomTables(r, d, n, 40, 1))
			do(d, randomTables(r, d, n, impl.MaxWhole, 1))
			do(d, randomTables(r, d, n, impl.MaxWhole, 2))
			do(d, vanishingTables(r, d, n, 3))
			do(d, vanishingTables(r, d, n, impl.MaxWhole))
		}
	}
}

// checkWholeModel compares whole numbers with a model.
func (c *tally) checkWholeModel(t *testing.T, name string, got rowList, code int64, want ratMatrix) {
	t.Helper()
	// Whole numbers within their limit are fractions, and their matrix fits as one.
	c.checkMatrix(t, name, wholeMatrix(got), code, want)
}

func TestProductsOfWordsFollowTheModel(t *testing.T) {
	var c tally
	eachTableSample(rand.New(rand.NewPCG(8, 1)), func(d int64, tables tableList) {
		for i, w := range allWords(d, 5) {
			if i%3 == 0 {
				got, code := impl.ProductOfWord(d, tables, w)
				c.checkWholeModel(t, "ProductOfWord "+w, got, code, alongWord(tables, w))
			}
		}
	})
	c.checkTally(t, "ProductOfWord")
}

func TestVanishingTablesFollowTheModel(t *testing.T) {
	yes, no, limit, behind := 0, 0, 0, 0
	check := func(d int64, tables tableList) {
		for level := int64(0); level <= 4; level++ {
			want, wantCode := true, int64(impl.ErrNone)
			for _, w := range allWords(d, level+1) {
				if int64(len(w)) != level+1 {
					continue
				}
				product := alongWord(tables, w)
				if !product.fits {
					wantCode = impl.ErrLimit
				}
				want = want && product.isZero()
			}
			switch {
			case wantCode == impl.ErrNone && want:
				yes++
			case wantCode == impl.ErrNone:
				no++
			case want:
				behind++
			default:
				limit++
			}
			want = want && wantCode == impl.ErrNone
			got, code := impl.VanishAt(d, tables, level)
			if got != want || code != wantCode {
				t.Errorf("VanishAt(%d, %v, %d) = %v, %d, want %v, %d", d, tables, level, got, code, want, wantCode)
			}
		}
	}
	r := rand.New(rand.NewPCG(8, 2))
	eachTableSample(r, check)
	for range 20 {
		check(1, vanishingTables(r, 1, 6, impl.MaxWhole))
		check(2, vanishingTables(r, 2, 4, 2))
		check(2, vanishingTables(r, 2, 5, impl.MaxWhole))
	}
	if min(yes, no, limit, behind) < 20 {
		t.Errorf("%d tables vanish, %d do not, %d do not fit, and %d of those that vanish do not", yes, no, limit, behind)
	}
}

func TestCommutatorsFollowTheModel(t *testing.T) {
	yes, no := 0, 0
	r := rand.New(rand.NewPCG(8, 3))
	check := func(d int64, tables tableList) {
		commute := true
		for i := range d {
			for k := range d {
				v, w := rowsModel(tables[i]), rowsModel(tables[k])
				want := v.times(w).less(w.times(v))
				commute = commute && want.isZero()
				got, code := impl.TableCommutator(d, tables, i, k)
				exact, _ := want.matrix()
				if code != impl.ErrNone || !sameMatrix(wholeMatrix(got), exact) {
					t.Errorf("TableCommutator(%d, %v, %d, %d) = %v, %d, want %v", d, tables, i, k, got, code, exact)
				}
			}
		}
		if got, code := impl.DoTablesCommute(d, tables); got != commute || code != impl.ErrNone {
			t.Errorf("DoTablesCommute(%d, %v) = %v, %d", d, tables, got, code)
		}
		if commute {
			yes++
		} else {
			no++
		}
	}
	eachTableSample(r, check)
	for range 30 {
		// Powers of one matrix commute, and so do multiples of the unit matrix with all.
		m := randomMap(r, 3, 3, 4, 1)
		check(3, tableList{m, productOfRows(m, m, 3), diagonalTables(3, r.Int64N(9))[0]})
		check(2, tableList{m, randomMap(r, 3, 3, 4, 1)})
		check(2, tableList{m, productOfRows(m, randomMap(r, 3, 3, 1, 2), 3)})
	}
	if min(yes, no) < 30 {
		t.Errorf("%d tables commute, and %d do not", yes, no)
	}
}

func TestValuesFollowTheModel(t *testing.T) {
	var c tally
	r := rand.New(rand.NewPCG(8, 4))
	check := func(x impl.Series, tables tableList) {
		got, code := impl.ValueOfSeries(x, tables)
		c.checkMatrix(t, "ValueOfSeries", got, code, valueModel(modelOf(x), tables))
	}
	eachShape(func(d int64, n int64) {
		for i, x := range append(modelSamples(r, d, n), sparseSeries(r, d, n, 2, flatSize, 1)) {
			rows := int64(i)%3 + 1
			check(x, randomTables(r, d, rows, 1, 1))
			check(x, randomTables(r, d, rows, 30, 1))
			check(x, randomTables(r, d, rows, impl.MaxWhole, 2))
			check(x, vanishingTables(r, d, 4, 20))
		}
		check(sparseSeries(r, d, n, 6, smallSize, 2), randomTables(r, d, 6, 2, 1))
	})
	for range 100 {
		check(sparseSeries(r, 2, 1, 1, flatSize, 1), randomTables(r, 2, 1, 1, 0))
		check(sparseSeries(r, 1, 2, 1, flatSize, 1), randomTables(r, 1, 1, 1, 0))
		check(sparseSeries(r, 2, 2, 3, smallSize, 31700), randomTables(r, 2, 2, 1, 1))
		check(sparseSeries(r, 1, 5, 2, smallSize, 1000), randomTables(r, 1, 2, 64, 1))
	}
	c.checkTally(t, "ValueOfSeries")
}

func TestSolutionsFollowTheModel(t *testing.T) {
	var c tally
	r := rand.New(rand.NewPCG(8, 5))
	check := func(d int64, n int64, p path, tables tableList) {
		got, code := impl.SolutionAlong(d, n, p, tables)
		c.checkMatrix(t, "SolutionAlong", got, code, valueModel(signatureModel(d, n, p), tables))
	}
	eachShape(func(d int64, n int64) {
		for range 3 {
			check(d, n, randomPath(r, d, r.IntN(4), 3), randomTables(r, d, 2, 2, 1))
			check(d, n, windingPath(r, d, r.IntN(5), 3), vanishingTables(r, d, 4, 5))
			check(d, n, randomPath(r, d, r.IntN(4), 30), randomTables(r, d, 2, 40, 1))
			check(d, n, randomPath(r, d, r.IntN(3), impl.MaxStep), randomTables(r, d, 1, 400, 1))
		}
	})
	for range 60 {
		check(1, 4, windingPath(r, 1, 2+r.IntN(6), 60), randomTables(r, 1, 1, 9, 0))
		check(1, 5, windingPath(r, 1, 2+r.IntN(4), 20), randomTables(r, 1, 1, 12, 0))
		// Signatures that do not fit, of which the tables read the first words alone.
		check(2, 5, randomPath(r, 2, 2, impl.MaxStep), vanishingTables(r, 2, 3, 2))
	}
	c.checkTally(t, "SolutionAlong")
}

// edgeMatrix returns a matrix with large numbers in its first row, and zeros elsewhere.
func edgeMatrix(r *rand.Rand, n int64) matrix {
	m := flatMatrix(n, n, zero)
	m[0] = randomMatrix(r, n, impl.MaxPart, 1)[0]
	return m
}

// randomMatrix returns a matrix with values up to a size, and denominators of at most den.
func randomMatrix(r *rand.Rand, n int64, most int64, den int64) matrix {
	m := flatMatrix(n, n, zero)
	for _, row := range m {
		for k := range row {
			row[k], _ = impl.FractionOf(r.Int64N(2*most+1)-most, r.Int64N(den)+1)
		}
	}
	return m
}

func TestMatrixProductsFollowTheModel(t *testing.T) {
	var c tally
	r := rand.New(rand.NewPCG(8, 6))
	check := func(a matrix, b matrix) {
		got, code := impl.MultiplyTables(a, b)
		c.checkMatrix(t, "MultiplyTables", got, code, matrixModel(a).times(matrixModel(b)))
	}
	for n := int64(1); n <= impl.MaxRows; n++ {
		for range 20 {
			check(randomMatrix(r, n, 5, 4), randomMatrix(r, n, 5, 4))
			check(randomMatrix(r, n, 31000, 1), randomMatrix(r, n, 31000, 1))
			check(randomMatrix(r, n, 14000, 1), randomMatrix(r, n, 30000, 1))
			check(randomMatrix(r, n, 9, 200), randomMatrix(r, n, 9, 200))
		}
	}
	for range 200 {
		check(edgeMatrix(r, 4), wholeMatrix(randomMap(r, 4, 4, 1, 1)))
		check(wholeMatrix(flatRows(3, 3, 1)), randomMatrix(r, 3, 600000000, 1))
		check(randomMatrix(r, 2, 4, 31700), wholeMatrix(randomMap(r, 2, 2, 1, 1)))
	}
	c.checkTally(t, "MultiplyTables")
}
