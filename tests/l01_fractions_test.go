package tests

import (
	"math"
	"math/big"
	"testing"

	"loop.example/g01260/impl"
)

func TestErrorCodes(t *testing.T) {
	codes := []int64{impl.ErrNone, impl.ErrInvalid, impl.ErrRange, impl.ErrLimit, impl.ErrNotFound,
		impl.ErrState, impl.ErrSyntax}
	for i, code := range codes {
		if code != int64(i) {
			t.Errorf("the code %d is %d", i, code)
		}
	}
	if impl.MaxPart != 1000000000 || impl.MaxLetter != 3 || impl.MaxLevel != 5 {
		t.Errorf("limits %d, %d, %d", impl.MaxPart, impl.MaxLetter, impl.MaxLevel)
	}
}

func TestIsFraction(t *testing.T) {
	for _, a := range sampleFractions() {
		if !impl.IsFraction(a) {
			t.Errorf("IsFraction(%v) = false", a)
		}
	}
	for _, a := range notFractions() {
		if impl.IsFraction(a) {
			t.Errorf("IsFraction(%v) = true", a)
		}
	}
	for den := int64(-12); den <= 12; den++ {
		for num := int64(-12); num <= 12; num++ {
			want := den >= 1 && new(big.Int).GCD(nil, nil, big.NewInt(max(num, -num)), big.NewInt(den)).Int64() == 1
			if got := impl.IsFraction(fr(num, den)); got != want {
				t.Errorf("IsFraction(%d/%d) = %t", num, den, got)
			}
		}
	}
}

func TestFractionOf(t *testing.T) {
	const most = 1000000000000000000
	const part = impl.MaxPart
	cases := []struct {
		num, den int64
		want     impl.Fraction
		code     int64
	}{
		{6, -4, fr(-3, 2), impl.ErrNone},
		{-6, -4, fr(3, 2), impl.ErrNone},
		{-6, 4, fr(-3, 2), impl.ErrNone},
		{0, 7, zero, impl.ErrNone},
		{0, -7, zero, impl.ErrNone},
		{5, 1, fr(5, 1), impl.ErrNone},
		{5, -5, fr(-1, 1), impl.ErrNone},
		{0, most, zero, impl.ErrNone},
		{0, -most, zero, impl.ErrNone},
		{most, most, fr(1, 1), impl.ErrNone},
		{-most, most, fr(-1, 1), impl.ErrNone},
		{most, -most, fr(-1, 1), impl.ErrNone},
		{most, part, fr(part, 1), impl.ErrNone},
		{part, most, fr(1, part), impl.ErrNone},
		{most - 1, most - 1, fr(1, 1), impl.ErrNone},
		{part, 1, fr(part, 1), impl.ErrNone},
		{-part, 1, fr(-part, 1), impl.ErrNone},
		{1, part, fr(1, part), impl.ErrNone},
		{2 * part, 2, fr(part, 1), impl.ErrNone},
		{2, 2 * part, fr(1, part), impl.ErrNone},
		{part + 1, 1, impl.Fraction{}, impl.ErrLimit},
		{-part - 1, 1, impl.Fraction{}, impl.ErrLimit},
		{1, part + 1, impl.Fraction{}, impl.ErrLimit},
		{1, -part - 1, impl.Fraction{}, impl.ErrLimit},
		{2 * (part + 1), 2, impl.Fraction{}, impl.ErrLimit},
		{most, 1, impl.Fraction{}, impl.ErrLimit},
		{1, most, impl.Fraction{}, impl.ErrLimit},
		{most, most - 1, impl.Fraction{}, impl.ErrLimit},
		{1, 0, impl.Fraction{}, impl.ErrState},
		{0, 0, impl.Fraction{}, impl.ErrState},
		{most, 0, impl.Fraction{}, impl.ErrState},
		{most + 1, 1, impl.Fraction{}, impl.ErrRange},
		{-most - 1, 1, impl.Fraction{}, impl.ErrRange},
		{1, most + 1, impl.Fraction{}, impl.ErrRange},
		{1, -most - 1, impl.Fraction{}, impl.ErrRange},
		{most + 1, most + 1, impl.Fraction{}, impl.ErrRange},
		{most + 1, 0, impl.Fraction{}, impl.ErrRange},
		{0, most + 1, impl.Fraction{}, impl.ErrRange},
		{math.MinInt64, 0, impl.Fraction{}, impl.ErrRange},
		{math.MinInt64, math.MinInt64, impl.Fraction{}, impl.ErrRange},
		{math.MaxInt64, math.MaxInt64, impl.Fraction{}, impl.ErrRange},
	}
	for _, c := range cases {
		got, code := impl.FractionOf(c.num, c.den)
		checkFraction(t, "FractionOf", got, code, c.want, c.code)
	}
}

func TestFractionOfIsExact(t *testing.T) {
	numbers := []int64{0, 1, 2, 3, 12, 35, 999999937, impl.MaxPart, 2 * impl.MaxPart, 3 * 999999937,
		999999999999999999, 1000000000000000000}
	for _, num := range numbers {
		for _, den := range numbers[1:] {
			for _, sign := range []int64{1, -1} {
				want, wantCode := fitted(big.NewRat(num, den*sign))
				got, code := impl.FractionOf(num, den*sign)
				checkFraction(t, "FractionOf", got, code, want, wantCode)
				want, wantCode = fitted(big.NewRat(-num, den*sign))
				got, code = impl.FractionOf(-num, den*sign)
				checkFraction(t, "FractionOf", got, code, want, wantCode)
			}
		}
	}
}

func TestFractionsAreExact(t *testing.T) {
	for _, a := range sampleFractions() {
		for _, b := range sampleFractions() {
			want, wantCode := fitted(new(big.Rat).Add(bigOf(a), bigOf(b)))
			got, code := impl.AddFractions(a, b)
			checkFraction(t, "AddFractions", got, code, want, wantCode)

			want, wantCode = fitted(new(big.Rat).Mul(bigOf(a), bigOf(b)))
			got, code = impl.MultiplyFractions(a, b)
			checkFraction(t, "MultiplyFractions", got, code, want, wantCode)

			want, wantCode = impl.Fraction{}, impl.ErrState
			if b != zero {
				want, wantCode = fitted(new(big.Rat).Quo(bigOf(a), bigOf(b)))
			}
			got, code = impl.DivideFractions(a, b)
			checkFraction(t, "DivideFractions", got, code, want, wantCode)
		}
	}
}

func TestQuotientsUndoProducts(t *testing.T) {
	for _, a := range sampleFractions() {
		for _, b := range sampleFractions() {
			product, code := impl.MultiplyFractions(a, b)
			if code != impl.ErrNone || b == zero {
				continue
			}
			back, code := impl.DivideFractions(product, b)
			checkFraction(t, "DivideFractions of a product", back, code, a, impl.ErrNone)
		}
	}
}

func TestFractionLimits(t *testing.T) {
	const part = impl.MaxPart
	type operation func(impl.Fraction, impl.Fraction) (impl.Fraction, int64)
	add, multiply, divide := impl.AddFractions, impl.MultiplyFractions, impl.DivideFractions
	cases := []struct {
		name string
		do   operation
		a, b impl.Fraction
		want impl.Fraction
		code int64
	}{
		{"add", add, fr(part-1, 1), fr(1, 1), fr(part, 1), impl.ErrNone},
		{"add", add, fr(part, 1), fr(1, 1), impl.Fraction{}, impl.ErrLimit},
		{"add", add, fr(1-part, 1), fr(-1, 1), fr(-part, 1), impl.ErrNone},
		{"add", add, fr(-part, 1), fr(-1, 1), impl.Fraction{}, impl.ErrLimit},
		{"add", add, fr(part, 1), fr(part, 1), impl.Fraction{}, impl.ErrLimit},
		{"add", add, fr(part, 1), fr(-part, 1), zero, impl.ErrNone},
		{"add", add, fr(1, part), fr(-1, part), zero, impl.ErrNone},
		{"add", add, fr(1, part), fr(1, part), fr(1, part/2), impl.ErrNone},
		{"add", add, fr(1, part), fr(1, part-1), impl.Fraction{}, impl.ErrLimit},
		{"add", add, fr(part, part-1), fr(part, part-1), impl.Fraction{}, impl.ErrLimit},
		{"multiply", multiply, fr(part/2, 1), fr(2, 1), fr(part, 1), impl.ErrNone},
		{"multiply", multiply, fr(part, 1), fr(2, 1), impl.Fraction{}, impl.ErrLimit},
		{"multiply", multiply, fr(part, 1), fr(1, part), fr(1, 1), impl.ErrNone},
		{"multiply", multiply, fr(1, part), fr(1, 2), impl.Fraction{}, impl.ErrLimit},
		{"multiply", multiply, fr(part, 1), zero, zero, impl.ErrNone},
		{"multiply", multiply, fr(part, part-1), fr(part-1, part), fr(1, 1), impl.ErrNone},
		{"divide", divide, fr(1, 1), fr(-1, part), fr(-part, 1), impl.ErrNone},
		{"divide", divide, fr(2, 1), fr(1, part), impl.Fraction{}, impl.ErrLimit},
		{"divide", divide, fr(part, 1), fr(-part, 1), fr(-1, 1), impl.ErrNone},
		{"divide", divide, fr(1, 2), fr(part, 1), impl.Fraction{}, impl.ErrLimit},
		{"divide", divide, zero, fr(-part, 1), zero, impl.ErrNone},
		{"divide", divide, fr(1, 3), fr(-3, 2), fr(-2, 9), impl.ErrNone},
	}
	for _, c := range cases {
		got, code := c.do(c.a, c.b)
		checkFraction(t, c.name, got, code, c.want, c.code)
	}
}

func TestInvalidFractions(t *testing.T) {
	none := impl.Fraction{}
	for _, bad := range notFractions() {
		for _, other := range append(notFractions(), fr(1, 2), zero, fr(impl.MaxPart, 1)) {
			got, code := impl.AddFractions(bad, other)
			checkFraction(t, "AddFractions", got, code, none, impl.ErrInvalid)
			got, code = impl.AddFractions(other, bad)
			checkFraction(t, "AddFractions", got, code, none, impl.ErrInvalid)
			got, code = impl.MultiplyFractions(bad, other)
			checkFraction(t, "MultiplyFractions", got, code, none, impl.ErrInvalid)
			got, code = impl.MultiplyFractions(other, bad)
			checkFraction(t, "MultiplyFractions", got, code, none, impl.ErrInvalid)
			// ErrInvalid comes ahead of ErrState, for a divisor of 0 as well.
			got, code = impl.DivideFractions(bad, other)
			checkFraction(t, "DivideFractions", got, code, none, impl.ErrInvalid)
			got, code = impl.DivideFractions(other, bad)
			checkFraction(t, "DivideFractions", got, code, none, impl.ErrInvalid)
		}
		if text, code := impl.FractionText(bad); text != "" || code != impl.ErrInvalid {
			t.Errorf("FractionText(%v) = %q, %d", bad, text, code)
		}
	}
	got, code := impl.DivideFractions(zero, zero)
	checkFraction(t, "DivideFractions", got, code, none, impl.ErrState)
}
