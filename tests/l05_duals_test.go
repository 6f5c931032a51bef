package tests

import (
	"math/big"
	"slices"
	"testing"

	"loop.example/g01260/impl"
)

func TestDualSeries(t *testing.T) {
	for _, c := range []struct {
		d, n    int64
		w, want string
	}{
		{1, 1, "", "1/1*"}, {2, 5, "", "1/1*"}, {3, 4, "", "1/1*"},
		{1, 1, "0", "1/1*0"}, {2, 1, "1", "1/1*1"}, {3, 4, "2", "1/1*2"},
		// Lyndon words.
		{2, 2, "01", "1/1*01"}, {2, 3, "01", "1/1*01"}, {2, 5, "01", "1/1*01"},
		{2, 3, "001", "1/1*001"}, {2, 3, "011", "1/1*011"}, {3, 3, "012", "1/1*012"}, {3, 3, "021", "1/1*012+1/1*021"},
		{2, 4, "0011", "1/1*0011"}, {3, 4, "0211", "1/1*0112+1/1*0121+1/1*0211"},
		{2, 5, "00101", "2/1*00011+1/1*00101"}, {2, 5, "01011", "3/1*00111+1/1*01011"},
		{3, 4, "0102", "1/1*0012+1/1*0021+1/1*0102"},
		// Factors that differ.
		{2, 2, "10", "1/1*01+1/1*10"}, {2, 3, "10", "1/1*01+1/1*10"},
		{2, 3, "010", "2/1*001+1/1*010"}, {2, 3, "101", "2/1*011+1/1*101"}, {3, 2, "20", "1/1*02+1/1*20"},
		{3, 3, "210", "1/1*012+1/1*021+1/1*102+1/1*120+1/1*201+1/1*210"}, {3, 3, "120", "1/1*012+1/1*102+1/1*120"},
		// Equal factors, alone or beside others.
		{1, 2, "00", "1/1*00"}, {2, 3, "11", "1/1*11"}, {1, 3, "000", "1/1*000"}, {1, 5, "00000", "1/1*00000"},
		{2, 4, "0101", "2/1*0011+1/1*0101"}, {2, 3, "100", "1/1*001+1/1*010+1/1*100"},
		{2, 3, "110", "1/1*011+1/1*101+1/1*110"},
		{2, 4, "1100", "1/1*0011+1/1*0101+1/1*0110+1/1*1001+1/1*1010+1/1*1100"},
		{2, 4, "0100", "3/1*0001+2/1*0010+1/1*0100"}, {2, 5, "11111", "1/1*11111"},
	} {
		x, code := impl.DualSeries(c.d, c.n, c.w)
		checkSeries(t, "DualSeries of "+c.w, x, code, c.d, c.n, c.want)
	}
}

// dualModel returns the model of the dual series of a word.
func (s shuffleModels) dualModel(d int64, n int64, w string) model {
	if isLeastTurn(w) {
		dual := emptyModel(d, n)
		for u, a := range s.dualModel(d, n-1, w[1:]).at {
			dual.at[w[:1]+u] = a
		}
		return dual
	}
	dual := unitModel(d, n)
	factors := listsOfFactors(w, "3")[0]
	for i := 0; i < len(factors); {
		equal := int64(0)
		for _, v := range factors {
			if v == factors[i] {
				equal++
			}
		}
		for range equal {
			dual = s.shuffle(dual, s.dualModel(d, n, factors[i]), false)
		}
		i += int(equal)
	}
	return dual.multiple(new(big.Rat).SetFrac(big.NewInt(1), ordersOfFactors(factors)))
}

// ordersOfFactors returns the product of the factorials of the numbers of equal words.
func ordersOfFactors(factors []string) *big.Int {
	numbers := map[string]int64{}
	for _, v := range factors {
		numbers[v]++
	}
	product := big.NewInt(1)
	for _, number := range numbers {
		product.Mul(product, new(big.Int).MulRange(1, number))
	}
	return product
}

// No fraction on the way to a dual series is too large, as words have at most five letters.
func TestDualSeriesFollowTheModel(t *testing.T) {
	s := newShuffleModels()
	var c tally
	eachShape(func(d int64, n int64) {
		for _, w := range allWords(d, n) {
			x, code := impl.DualSeries(d, n, w)
			c.check(t, "DualSeries of "+w, x, code, s.dualModel(d, n, w))
		}
	})
	if c.fit < 300 || c.tooLarge+c.onTheWay > 0 {
		t.Errorf("%d dual series fit, and %d do not", c.fit, c.tooLarge+c.onTheWay)
	}
}

// bracketSeriesOf returns the series of the bracket of a Lyndon word.
func (c *calls) bracketSeriesOf(d int64, n int64, w string) impl.Series {
	if len(w) == 1 {
		return c.of(impl.LetterSeries(d, n, int64(w[0]-'0')))
	}
	cut, code := impl.CutOf(d, w)
	if code != impl.ErrNone {
		c.code = code
		return impl.Series{}
	}
	return c.of(impl.CommutatorOf(c.bracketSeriesOf(d, n, cut[0]), c.bracketSeriesOf(d, n, cut[1])))
}

// productOfBrackets returns the product of the brackets of the factors of a word.
func (c *calls) productOfBrackets(d int64, n int64, w string) impl.Series {
	factors, code := impl.FactorsOf(d, w)
	if code != impl.ErrNone {
		c.code = code
	}
	product := c.of(impl.UnitSeries(d, n))
	for _, v := range factors {
		product = c.of(impl.MultiplySeries(product, c.bracketSeriesOf(d, n, v)))
	}
	return product
}

// Dual series are dual to the products of the brackets of factors. This holds for no other series.
func TestDualSeriesPairWithProductsOfBrackets(t *testing.T) {
	for d, n := range map[int64]int64{1: 5, 2: 5, 3: 4} {
		words := allWords(d, n)
		var products []impl.Series
		for _, w := range words {
			var c calls
			products = append(products, c.productOfBrackets(d, n, w))
			if c.code != impl.ErrNone {
				t.Fatalf("the brackets of %q: code %d", w, c.code)
			}
		}
		for i, w := range words {
			dual, code := impl.DualSeries(d, n, w)
			if code != impl.ErrNone || !impl.IsSeries(dual) {
				t.Errorf("DualSeries(%d, %d, %q) = %v, %d", d, n, w, dual, code)
			}
			for k, v := range words {
				want := zero
				if i == k {
					want = fr(1, 1)
				}
				a, code := impl.PairSeries(dual, products[k])
				checkFraction(t, "the dual series of "+w+" with the brackets of "+v, a, code, want, impl.ErrNone)
			}
		}
	}
}

func TestDualSeriesDoNotDependOnTheLevel(t *testing.T) {
	eachShape(func(d int64, n int64) {
		for _, w := range allWords(d, n) {
			x, code := impl.DualSeries(d, n, w)
			if code != impl.ErrNone || x.Letters != d || x.Level != n || len(x.Terms) == 0 {
				t.Errorf("DualSeries(%d, %d, %q) = %v, %d", d, n, w, x, code)
			}
			least, _ := impl.DualSeries(d, max(1, int64(len(w))), w)
			if !slices.Equal(x.Terms, least.Terms) {
				t.Errorf("DualSeries of %q has %v at the level %d, and %v at the least one", w, x.Terms, n, least.Terms)
			}
			// The word has the coefficient 1, and stands behind all others.
			if last := x.Terms[len(x.Terms)-1]; last != (impl.Term{Word: w, Value: fr(1, 1)}) {
				t.Errorf("DualSeries of %q ends with %v", w, last)
			}
		}
	})
}
