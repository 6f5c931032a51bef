package tests

import (
	"testing"

	"loop.example/g01260/impl"
)

func TestMappedSeriesAtTheLimit(t *testing.T) {
	checkMapped(t, []mapCase{
		{1, 1, 1, "1000000000/1*0", rowList{{1}}, "1000000000/1*0"}, {1, 1, 1, "1000000000/1*0", rowList{{-1}}, "-1000000000/1*0"},
		{1, 1, 1, "10000000/1*0", rowList{{100}}, "1000000000/1*0"}, {1, 1, 1, "-10000000/1*0", rowList{{100}}, "-1000000000/1*0"},
		{1, 1, 1, "10000001/1*0", rowList{{100}}, noFit}, {1, 1, 1, "10000001/1*0", rowList{{-100}}, noFit},
		{1, 1, 1, "500000000/1*0", rowList{{2}}, "1000000000/1*0"}, {1, 1, 1, "500000001/1*0", rowList{{2}}, noFit},
		{1, 1, 1, "1/1000000000*0", rowList{{100}}, "1/10000000*0"}, {1, 1, 1, "999999999/1000000000*0", rowList{{100}}, "999999999/10000000*0"},
		{1, 1, 1, "1000000000/999999999*0", rowList{{81}}, "1000000000/12345679*0"},
		{1, 1, 1, "1000000000/999999999*0", rowList{{100}}, noFit}, {1, 1, 1, "1000000000/999999999*0", rowList{{2}}, noFit},
		{1, 1, 1, "1000000000/1*", rowList{{100}}, "1000000000/1*"}, {1, 4, 1, "10/1*0000", rowList{{100}}, "1000000000/1*0000"},
		{1, 4, 1, "11/1*0000", rowList{{100}}, noFit}, {1, 4, 1, "1/1*00+10/1*0000", rowList{{-100}}, "10000/1*00+1000000000/1*0000"},
		// One word of many is enough.
		{2, 2, 2, "10000/1*0+10000/1*01", rowList{{100, 0}, {1, 100}}, "1000000/1*0+1000000/1*00+100000000/1*01"},
		{2, 2, 2, "10000/1*0+100001/1*01", rowList{{100, 0}, {1, 100}}, noFit}, {1, 1, 3, "500000001/1*0", rowList{{1, 0, 2}}, noFit},
		{1, 1, 3, "500000001/1*0", rowList{{1, 0, 1}}, "500000001/1*0+500000001/1*2"},
	})
}

// The product of the numbers of a map is a whole number, and may be too great for a fraction, if the
// Value times it is not.
func TestProductsOfNumbersOfMaps(t *testing.T) {
	checkMapped(t, []mapCase{
		{1, 5, 1, "1/10*00000", rowList{{100}}, "1000000000/1*00000"}, {1, 5, 1, "-1/10*00000", rowList{{-100}}, "1000000000/1*00000"},
		{1, 5, 1, "1/1*00000", rowList{{100}}, noFit}, {1, 5, 1, "1/9*00000", rowList{{100}}, noFit}, {1, 5, 1, "1/11*00000", rowList{{100}}, noFit},
		{1, 5, 1, "1/1000000000*00000", rowList{{100}}, "10/1*00000"}, {1, 5, 1, "7/100000000*00000", rowList{{-100}}, "-700/1*00000"},
		{1, 5, 1, "1000000000/1*00000", rowList{{100}}, noFit}, {1, 5, 1, "999999999/1000000000*00000", rowList{{100}}, noFit},
		{1, 5, 1, "1/512*00000", rowList{{96}}, "15925248/1*00000"}, {1, 5, 1, "1/1024*00000", rowList{{100}}, "9765625/1*00000"},
		{2, 5, 1, "1/1000*00011", rowList{{100}, {64}}, "4096000/1*00000"},
	})
}

// A product with 0 is left out, even where the Value times the other numbers would not fit.
func TestProductsThatAreZeroAreLeftOut(t *testing.T) {
	checkMapped(t, []mapCase{
		{2, 2, 2, "1000000000/1*01", rowList{{2, 2}, {0, 0}}, "0"}, {2, 2, 2, "1000000000/1*10", rowList{{2, 2}, {0, 0}}, "0"},
		{2, 2, 2, "1000000000/1*01", rowList{{0, 0}, {2, 2}}, "0"}, {2, 2, 2, "1000000000/1*10", rowList{{0, 0}, {2, 2}}, "0"},
		{3, 4, 1, "1000000000/1*0012", rowList{{100}, {100}, {0}}, "0"}, {3, 4, 3, "1000000000/1*0021", rowList{{100, 0, 1}, {0, 0, 100}, {0, 0, 0}}, "0"},
		{3, 4, 3, "1/1*11+1000000000/1*0021", rowList{{100, 0, 1}, {0, 0, 2}, {0, 0, 0}}, "4/1*22"},
		{2, 2, 2, "1000000000/1*01", rowList{{2, 0}, {0, 1}}, noFit}, {2, 2, 2, "1000000000/1*01", rowList{{0, 1}, {0, 2}}, noFit},
		{2, 2, 2, "1000000000/1*01", rowList{{0, 1}, {-1, 0}}, "-1000000000/1*10"},
		{1, 1, 1, "1000000000/1*0", rowList{{0}}, "0"}, {1, 1, 2, "1000000000/1*0", rowList{{0, 1}}, "1000000000/1*1"},
		{1, 2, 2, "1000000000/1*00", rowList{{0, -1}}, "1000000000/1*11"}, {3, 4, 3, "1000000000/1*+1000000000/1*0122", flatRows(3, 3, 0), "1000000000/1*"},
	})
}

// Whether sums fit depends on their order, which is that of the terms.
func TestMappedSeriesFitOnTheWay(t *testing.T) {
	checkMapped(t, []mapCase{
		{2, 1, 1, "1000000000/1*0+-1/1*1", rowList{{1}, {1}}, "999999999/1*0"}, {2, 1, 1, "1000000000/1*0+1/1*1", rowList{{1}, {1}}, noFit},
		{2, 1, 1, "1000000000/1*0+1/1*1", rowList{{1}, {-1}}, "999999999/1*0"}, {2, 1, 1, "-1000000000/1*0+1/1*1", rowList{{1}, {-1}}, noFit},
		{3, 1, 1, "600000000/1*0+600000000/1*1+-600000000/1*2", flatRows(3, 1, 1), noFit},
		{3, 1, 1, "600000000/1*0+-600000000/1*1+600000000/1*2", flatRows(3, 1, 1), "600000000/1*0"},
		{3, 1, 1, "-600000000/1*0+600000000/1*1+600000000/1*2", flatRows(3, 1, 1), "600000000/1*0"},
		{3, 1, 1, "600000000/1*0+600000000/1*1+600000000/1*2", rowList{{1}, {1}, {-1}}, noFit},
		{3, 1, 1, "600000000/1*0+600000000/1*1+600000000/1*2", rowList{{1}, {-1}, {1}}, "600000000/1*0"},
		// Denominators that do not fit together.
		{3, 1, 1, "1/31607*0+1/31643*1+-1/31607*2", flatRows(3, 1, 1), noFit},
		{3, 1, 1, "1/31607*0+-1/31607*1+1/31643*2", flatRows(3, 1, 1), "1/31643*0"},
		{2, 1, 1, "1/31607*0+1/31601*1", flatRows(2, 1, 1), "63208/998812807*0"},
		// The Value times the product does not fit, but the sum with it would.
		{2, 1, 1, "-1000000000/1*0+500000001/1*1", rowList{{1}, {2}}, noFit}, {2, 1, 1, "-1000000000/1*0+500000000/1*1", rowList{{1}, {2}}, "0"},
		{2, 2, 1, "1000000000/1*01+-1000000000/1*10", rowList{{2}, {1}}, noFit}, {2, 2, 1, "500000000/1*01+-500000000/1*10", rowList{{2}, {1}}, "0"},
		// Both summands of 0 fit, but of 1 only the sum would.
		{2, 1, 2, "500000001/1*0+-500000001/1*1", rowList{{1, 2}, {1, 2}}, noFit}, {2, 1, 2, "500000000/1*0+-500000000/1*1", rowList{{1, 2}, {1, 2}}, "0"},
		// Sums at words of two letters: 00, 01, 10 and 11 become one.
		{2, 2, 1, "400000000/1*00+400000000/1*01+400000000/1*10+-400000000/1*11", flatRows(2, 1, 1), noFit},
		{2, 2, 1, "400000000/1*00+400000000/1*01+-400000000/1*10+400000000/1*11", flatRows(2, 1, -1), "800000000/1*00"},
		// Sums that become 0 go on, and are left out if they stay.
		{3, 1, 1, "1000000000/1*0+-1000000000/1*1+1000000000/1*2", flatRows(3, 1, 1), "1000000000/1*0"},
		{3, 2, 2, "1/3*0+-1/3*1+1/5*22", rowList{{1, 2}, {1, 2}, {0, 1}}, "1/5*11"},
	})
}

func TestUnchangedSeriesFitOnTheWay(t *testing.T) {
	for _, c := range []struct {
		d, n  int64
		x     string
		m     rowList
		equal bool
		code  int64
	}{
		{1, 1, "1000000000/1*0", rowList{{1}}, true, impl.ErrNone}, {1, 1, "1000000000/1*0", rowList{{-1}}, false, impl.ErrNone},
		{1, 1, "1000000000/1*0", rowList{{2}}, false, impl.ErrLimit}, {1, 1, "10000000/1*0", rowList{{100}}, false, impl.ErrNone},
		{1, 1, "10000001/1*0", rowList{{100}}, false, impl.ErrLimit}, {1, 5, "1/10*00000", rowList{{100}}, false, impl.ErrNone},
		{1, 5, "1/9*00000", rowList{{100}}, false, impl.ErrLimit},
		// What differs comes ahead of what does not fit, or behind it.
		{2, 2, "1/1*0+1000000000/1*11", rowList{{2, 0}, {0, 2}}, false, impl.ErrLimit}, {2, 2, "1000000000/1*0+1/1*11", rowList{{1, 1}, {1, 1}}, false, impl.ErrNone},
		// It would be the same series, but not on the way.
		{2, 1, "600000000/1*0+600000000/1*1", rowList{{-1, 2}, {2, -1}}, false, impl.ErrLimit}, {2, 1, "500000000/1*0+500000000/1*1", rowList{{-1, 2}, {2, -1}}, true, impl.ErrNone},
		{2, 1, "1000000000/1*0+1000000000/1*1", rowList{{0, 1}, {1, 0}}, true, impl.ErrNone},
		{3, 1, "600000000/1*0+600000000/1*1+600000000/1*2", rowList{{1, 0, 0}, {1, 1, -1}, {-1, 0, 2}}, false, impl.ErrLimit},
		{3, 1, "500000000/1*0+500000000/1*1+500000000/1*2", rowList{{1, 0, 0}, {1, 1, -1}, {-1, 0, 2}}, true, impl.ErrNone},
	} {
		got, code := impl.IsUnchanged(seriesOf(t, c.d, c.n, c.x), c.m)
		if got != c.equal || code != c.code {
			t.Errorf("IsUnchanged of %s by %v = %v, %d", c.x, c.m, got, code)
		}
	}
}

// What makes no sums and products returns no ErrLimit.
func TestOtherFunctionsOfLargeSeries(t *testing.T) {
	const text = "1000000000/1*+1000000000/999999999*0+-1000000000/1*1+1/1000000000*01+-1000000000/1*11"
	x := seriesOf(t, 2, 2, text)
	y, code := impl.ExchangeLetters(x, []int64{0, 1})
	checkSeries(t, "ExchangeLetters", y, code, 2, 2, text)
	y, code = impl.ExchangeLetters(x, []int64{1, 0})
	checkSeries(t, "ExchangeLetters", y, code, 2, 2, "1000000000/1*+-1000000000/1*0+1000000000/999999999*1+-1000000000/1*00+1/1000000000*10")
	y, code = impl.KeepLetters(x, "1")
	checkSeries(t, "KeepLetters", y, code, 2, 2, "1000000000/1*+-1000000000/1*1+-1000000000/1*11")
	y, code = impl.WithoutBeginning(x, "0")
	checkSeries(t, "WithoutBeginning", y, code, 2, 2, "1000000000/999999999*+1/1000000000*1")
	y, code = impl.WithoutEnd(x, "1")
	checkSeries(t, "WithoutEnd", y, code, 2, 2, "-1000000000/1*+1/1000000000*0+-1000000000/1*1")
	degrees, code := impl.DegreesOf(x)
	checkPath(t, "DegreesOf", degrees, code, [][]int64{{0, 0}, {1, 0}, {0, 1}, {1, 1}, {0, 2}})
}
