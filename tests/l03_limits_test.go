package tests

import (
	"testing"

	"loop.example/g01260/impl"
)

func TestShufflesAtTheLimit(t *testing.T) {
	checkPairs(t, "ShuffleSeries", impl.ShuffleSeries, []pairCase{
		{1, 1, "500000000/1*", "2/1*", "1000000000/1*"},
		{1, 1, "500000001/1*", "2/1*", noFit},
		{1, 1, "-500000001/1*", "2/1*", noFit},
		{1, 1, "1/500000000*", "1/2*", "1/1000000000*"},
		{1, 1, "1/500000001*", "1/2*", noFit},
		{1, 1, "999999999/1*+1/1*0", "1/1*+1/1*0", "999999999/1*+1000000000/1*0"},
		{1, 1, "1000000000/1*+1/1*0", "1/1*+1/1*0", noFit},
		// The product fits, and then it is taken twice.
		{1, 2, "500000000/1*0", "1/1*0", "1000000000/1*00"},
		{1, 2, "500000001/1*0", "1/1*0", noFit},
		{1, 2, "1/1*0", "-500000001/1*0", noFit},
		{2, 4, "1/1*01", "250000000/1*01", "1000000000/1*0011+500000000/1*0101"},
		{2, 4, "1/1*01", "250000001/1*01", noFit},
		{1, 2, "1/1000000000*0", "1/1*0", "1/500000000*00"},
		{3, 4, "1/1*0", "1000000000/1*12", "1000000000/1*012+1000000000/1*102+1000000000/1*120"},
	})
}

func TestShufflesFitOnTheWay(t *testing.T) {
	checkPairs(t, "ShuffleSeries", impl.ShuffleSeries, []pairCase{
		// Twice the product would fit, but not the product.
		{1, 2, "1/500000000*0", "1/4*0", noFit},
		{1, 2, "1/500000000*0", "1/2*0", "1/500000000*00"},
		// Products are made even if all words of their shuffle are too long.
		{1, 1, "1000000000/1*0", "1000000000/1*0", noFit},
		{1, 1, "31622/1*0", "31623/1*0", "0"},
		{1, 1, "31623/1*0", "31623/1*0", noFit},
		{2, 3, "1000000000/1*01", "1/1*01", "0"},
		{2, 3, "1000000000/1*01", "2/1*01", noFit},
		{3, 4, "1/1*0+1/2*2222", "1/1*0+1/500000001*2222", noFit},
		// Products that do not fit would take each other away.
		{1, 1, "100000/1*+100000/1*0", "-100000/1*+100000/1*0", noFit},
		// The summands of 00 are 600, 578 and -600 times 10^6, the one of the empty word of x first.
		{1, 2, "24000/1*+17000/1*0+-25000/1*00", "24000/1*+17000/1*0+25000/1*00", noFit},
		// They are -600, 578 and 600 times 10^6.
		{1, 2, "24000/1*+17000/1*0+25000/1*00", "24000/1*+17000/1*0+-25000/1*00",
			"576000000/1*+816000000/1*0+578000000/1*00"},
		// They are -600 times 10^6, and twice 600 times 10^6, which does not fit.
		{1, 2, "24000/1*+24000/1*0", "25000/1*0+-25000/1*00", noFit},
		{1, 2, "24000/1*+20000/1*0", "25000/1*0+-25000/1*00", "600000000/1*0+400000000/1*00"},
	})
}

func TestHalfShufflesFitOnTheWay(t *testing.T) {
	checkPairs(t, "HalfShuffle", impl.HalfShuffle, []pairCase{
		// No product is made of the empty word in x.
		{1, 1, "1000000000/1*", "1000000000/1*", "0"},
		{1, 1, "1000000000/1*+1/1*0", "1000000000/1*", "1000000000/1*0"},
		{1, 1, "500000000/1*0", "2/1*", "1000000000/1*0"},
		{1, 1, "500000001/1*0", "2/1*", noFit},
		{1, 2, "1000000000/1*0", "1/1*0", "1000000000/1*00"},
		{1, 2, "31623/1*0", "31623/1*0", noFit},
		{2, 3, "1/1*01", "500000000/1*1", "1000000000/1*011"},
		{2, 3, "1/1*01", "500000001/1*1", noFit},
		{1, 3, "1/500000000*00", "1/4*0", noFit},
		// Products are made even if all words of their shuffle are too long.
		{1, 1, "500000000/1*0", "2/1*0", "0"},
		{1, 1, "500000001/1*0", "2/1*0", noFit},
		// The summands of 000 are 600, 578 and -600 times 10^6, the one of 0 in x first.
		{1, 3, "24000/1*0+17000/1*00+-25000/1*000", "24000/1*+17000/1*0+25000/1*00", noFit},
		// They are -600, 578 and 600 times 10^6.
		{1, 3, "24000/1*0+17000/1*00+25000/1*000", "24000/1*+17000/1*0+-25000/1*00",
			"576000000/1*0+816000000/1*00+578000000/1*000"},
	})
}

func TestShufflePowersFitOnTheWay(t *testing.T) {
	checkShufflePowers(t, []powerCase{
		{1, 1, "1000000000/1*0", 0, "1/1*"},
		{1, 1, "1000000000/1*0", 1, "1000000000/1*0"},
		// All words of the power 2 are too long, but its products have to fit.
		{1, 1, "1000000000/1*0", 2, noFit},
		{1, 1, "31623/1*0", 2, noFit},
		{1, 1, "31623/1*0", impl.MaxShuffle, noFit},
		{1, 1, "31622/1*0", 2, "0"},
		{1, 1, "31622/1*0", impl.MaxShuffle, "0"},
		{1, 2, "22360/1*0", 2, "999939200/1*00"},
		{1, 2, "22361/1*0", 2, noFit},
		{1, 2, "22360/1*0", 3, noFit},
		{1, 2, "793/1*0", 3, "0"},
		{1, 2, "794/1*0", 2, "1260872/1*00"},
		{1, 2, "794/1*0", 3, noFit},
		{1, 1, "13/1*", impl.MaxShuffle, "815730721/1*"},
		{1, 1, "14/1*", impl.MaxShuffle, noFit},
		{1, 1, "-14/1*", 7, "-105413504/1*"},
		{1, 1, "1/13*", impl.MaxShuffle, "1/815730721*"},
		{1, 1, "1/14*", impl.MaxShuffle, noFit},
		{3, 4, "79/1*2", 4, "934801944/1*2222"},
		{3, 4, "81/1*2", 4, noFit},
		// In the power 3 the summands of 00 are -23520000, 704310880 and 305115440, if the power 2 is
		// the first factor; the last two do not fit together.
		{1, 2, "280/1*+793/1*0+-300/1*00", 3, "21952000/1*+186513600/1*0+985906320/1*00"},
	})
}

func TestPairingsFitOnTheWay(t *testing.T) {
	const ones = "1/1*+1/1*0+1/1*00"
	checkPairings(t, []pairCase{
		{1, 1, "500000000/1*", "2/1*", "1000000000/1"},
		{1, 1, "500000001/1*", "2/1*", noFit},
		{1, 1, "1/500000000*0", "-1/2*0", "-1/1000000000"},
		{1, 1, "1/500000001*0", "-1/2*0", noFit},
		{1, 1, "999999999/1*+1/1*0", "1/1*+1/1*0", "1000000000/1"},
		{1, 1, "1000000000/1*+1/1*0", "1/1*+1/1*0", noFit},
		// Products that do not fit would take each other away.
		{1, 1, "100000/1*+100000/1*0", "100000/1*+-100000/1*0", noFit},
		// No product is made if the other series has no term for the word.
		{1, 1, "1000000000/1*", "1000000000/1*0", "0/1"},
		{1, 2, "600000000/1*+600000000/1*0+-600000000/1*00", ones, noFit},
		{1, 2, "600000000/1*+-600000000/1*0+600000000/1*00", ones, "600000000/1"},
		{1, 2, "-600000000/1*+600000000/1*0+600000000/1*00", ones, "600000000/1"},
		{1, 2, "1/31607*+1/31643*0+-1/31607*00", ones, noFit},
		{1, 2, "1/31607*+-1/31607*0+1/31643*00", ones, "1/31643"},
	})
}

func TestValuesAtShufflesFitOnTheWay(t *testing.T) {
	checkShuffleValues(t, []shuffleValueCase{
		{1, 1, "1000000000/1*", "", "", "1000000000/1"},
		{1, 2, "500000000/1*00", "0", "0", "1000000000/1"},
		{1, 2, "500000001/1*00", "0", "0", noFit},
		{1, 2, "1/1000000000*00", "0", "0", "1/500000000"},
		{1, 5, "100000000/1*00000", "00", "000", "1000000000/1"},
		{1, 5, "-100000001/1*00000", "00", "000", noFit},
		// No product is made of words that are not in the shuffle.
		{2, 3, "1000000000/1*111", "0", "01", "0/1"},
		{2, 3, "600000000/1*011+600000000/1*101+-600000000/1*110", "0", "11", noFit},
		{2, 3, "600000000/1*011+-600000000/1*101+600000000/1*110", "0", "11", "600000000/1"},
		{2, 3, "-600000000/1*011+600000000/1*101+600000000/1*110", "0", "11", "600000000/1"},
		// Twice the first coefficient does not fit, but with the second one it would.
		{2, 3, "600000000/1*001+-600000000/1*010", "0", "01", noFit},
		{2, 3, "500000000/1*001+-600000000/1*010", "0", "01", "400000000/1"},
	})
}

func TestTheFirstPairDecidesOnGroupLikeSeries(t *testing.T) {
	checkTests(t, "IsGroupLike", impl.IsGroupLike, []testCase{
		{1, 3, "1/1*+31622/1*0", false, impl.ErrNone},
		{1, 3, "1/1*+31623/1*0", false, impl.ErrLimit},
		{1, 3, "1/1*+1/31623*0", false, impl.ErrLimit},
		{1, 2, "1/1*+500000000/1*00", false, impl.ErrNone},
		{1, 2, "1/1*+500000001/1*00", false, impl.ErrLimit},
		// The constant comes ahead of all pairs.
		{1, 2, "500000001/1*00", false, impl.ErrNone},
		{1, 2, "2/1*+500000001/1*00", false, impl.ErrNone},
		{1, 1, "1/1*+1000000000/1*0", true, impl.ErrNone},
		// The pair of 0 and 0 holds, or not, and the product for 0 and 00 does not fit.
		{1, 2, "1/1*+30000/1*0+450000000/1*00", true, impl.ErrNone},
		{1, 3, "1/1*+30000/1*0+450000000/1*00", false, impl.ErrLimit},
		{1, 3, "1/1*+30000/1*0+400000000/1*00", false, impl.ErrNone},
		{2, 2, "1/1*+1/1*0+1000000000/1*1", false, impl.ErrNone},
		{2, 2, "1/1*+1000000000/1*0+1/1*1", false, impl.ErrLimit},
		// The pair of 0 and 00 comes ahead of that of 1 and 1.
		{2, 3, "1/1*+1000000000/1*1+1/1*000", false, impl.ErrNone},
		{2, 3, "1/1*+1/1*1+1000000000/1*000", false, impl.ErrLimit},
		// The pair of 00 and 00 does not fit; that of 1 and 1, which comes ahead of it, does not hold.
		{2, 4, "1/1*+276/1*0+38088/1*00+3504096/1*000+241782624/1*0000", false, impl.ErrLimit},
		{2, 4, "1/1*+276/1*0+38088/1*00+1/1*11+3504096/1*000+276/1*011+241782624/1*0000+38088/1*0011", false, impl.ErrNone},
		// On the way to the value at the shuffle of 0 and 11.
		{2, 3, "1/1*+600000000/1*011+600000000/1*101+-600000000/1*110", false, impl.ErrLimit},
		{2, 3, "1/1*+600000000/1*011+-600000000/1*101+600000000/1*110", false, impl.ErrNone},
	})
}

func TestTheFirstPairDecidesOnLieSeries(t *testing.T) {
	checkTests(t, "IsLieSeries", impl.IsLieSeries, []testCase{
		{1, 2, "500000000/1*00", false, impl.ErrNone},
		{1, 2, "500000001/1*00", false, impl.ErrLimit},
		// The constant comes ahead of all pairs.
		{1, 2, "1/1*+500000001/1*00", false, impl.ErrNone},
		{1, 2, "1/1000000000*+500000001/1*00", false, impl.ErrNone},
		// No products of coefficients are made.
		{2, 2, "1000000000/1*0+-1000000000/1*1", true, impl.ErrNone},
		{2, 2, "1000000000/1*01+-1000000000/1*10", true, impl.ErrNone},
		{2, 2, "1000000000/1*01+1000000000/1*10", false, impl.ErrLimit},
		{2, 2, "1000000000/1*01", false, impl.ErrNone},
		// The pair of 0 and 0 comes ahead of that of 1 and 1.
		{2, 2, "1/1*00+1000000000/1*11", false, impl.ErrNone},
		{2, 2, "1000000000/1*00+1/1*11", false, impl.ErrLimit},
		// The pair of 0 and 00 comes ahead of that of 1 and 1.
		{2, 3, "1000000000/1*11+1/1*000", false, impl.ErrNone},
		{2, 3, "1/1*11+1000000000/1*000", false, impl.ErrLimit},
		// On the way to the value at the shuffle of 0 and 11.
		{2, 3, "600000000/1*011+600000000/1*101+-600000000/1*110", false, impl.ErrLimit},
		{2, 3, "600000000/1*011+-600000000/1*101+600000000/1*110", false, impl.ErrNone},
		{2, 3, "500000000/1*011+-1000000000/1*101+500000000/1*110", true, impl.ErrNone},
	})
}
