package tests

import (
	"math/rand/v2"
	"testing"

	"loop.example/g01260/impl"
)

// ofNumbers returns numbers that a function has returned, and keeps its error.
func (c *calls) ofNumbers(list []int64, code int64) []int64 {
	if c.code == impl.ErrNone {
		c.code = code
	}
	return list
}

// eachWordPair calls a function for pairs of group words of all shapes, whose products fit.
func eachWordPair(seed uint64, do func(d int64, n int64, v []int64, w []int64)) {
	r := rand.New(rand.NewPCG(9, seed))
	eachShape(func(d int64, n int64) {
		for range 8 {
			do(d, n, randomWord(r, d, r.IntN(7)), randomWord(r, d, r.IntN(7)))
			do(d, n, randomWord(r, d, r.IntN(4)), randomWord(r, d, r.IntN(4)))
			v := randomWord(r, d, r.IntN(impl.MaxGroup+1))
			do(d, n, v, inverseNumbers(v)[len(v)/2:])
		}
	})
}

func TestReducedWordsHaveTheSameSignatures(t *testing.T) {
	held, shorter := 0, 0
	eachWordSample(20, 12, func(d int64, n int64, word []int64) {
		var c calls
		reduced := c.ofNumbers(impl.ReduceWord(d, word))
		if c.checkEqual(t, "the reduced word", c.of(impl.SignatureOfWord(d, n, reduced)), c.of(impl.SignatureOfWord(d, n, word))) {
			held++
		}
		if equal, code := impl.AreEqualInGroup(d, word, reduced); !equal || code != impl.ErrNone {
			t.Errorf("AreEqualInGroup(%d, %v, %v) = %v, %d", d, word, reduced, equal, code)
		}
		if len(reduced) < len(word) {
			shorter++
		}
	})
	checkHeld(t, held)
	checkHeld(t, shorter)
}

func TestSignaturesOfGroupWordsAreThoseOfTheirPaths(t *testing.T) {
	held := 0
	eachWordSample(21, 6, func(d int64, n int64, word []int64) {
		var c calls
		x := c.of(impl.SignatureOf(d, n, c.ofPath(impl.PathOfWord(d, word))))
		if c.checkEqual(t, "the path of a word", x, c.of(impl.SignatureOfWord(d, n, word))) {
			held++
		}
		if is, code := impl.IsGroupLike(x); !is || code != impl.ErrNone {
			t.Errorf("IsGroupLike of the signature of %v = %v, %d", word, is, code)
		}
	})
	checkHeld(t, held)
}

func TestSignaturesOfProductsAreProducts(t *testing.T) {
	held := 0
	eachWordPair(22, func(d int64, n int64, v []int64, w []int64) {
		var c calls
		x, y := c.of(impl.SignatureOfWord(d, n, v)), c.of(impl.SignatureOfWord(d, n, w))
		product := c.of(impl.SignatureOfWord(d, n, c.ofNumbers(impl.MultiplyWords(d, v, w))))
		if c.checkEqual(t, "the product of words", product, c.of(impl.MultiplySeries(x, y))) {
			held++
		}
	})
	checkHeld(t, held)
}

func TestSignaturesOfInverseWordsAreInverses(t *testing.T) {
	held := 0
	eachWordSample(23, 6, func(d int64, n int64, word []int64) {
		var c calls
		x := c.of(impl.SignatureOfWord(d, n, word))
		inverse := c.of(impl.SignatureOfWord(d, n, c.ofNumbers(impl.InverseWord(d, word))))
		c.checkEqual(t, "the antipode", inverse, c.of(impl.AntipodeOf(x)))
		if c.checkEqual(t, "word and inverse", c.of(impl.MultiplySeries(x, inverse)), unitOf(d, n)) {
			held++
		}
		if nothing := c.ofNumbers(impl.MultiplyWords(d, word, c.ofNumbers(impl.InverseWord(d, word)))); len(nothing) > 0 {
			t.Errorf("%v times its inverse is %v", word, nothing)
		}
	})
	checkHeld(t, held)
}

func TestCommutatorsHaveDepthsOfAtLeastTwo(t *testing.T) {
	held, deep := 0, 0
	eachWordPair(24, func(d int64, n int64, v []int64, w []int64) {
		commutator, code := impl.CommutatorWord(d, v, w)
		if code == impl.ErrLimit {
			return
		}
		sums, sumsCode := impl.LetterSums(d, commutator)
		depth, depthCode := impl.DepthOfWord(d, n, commutator)
		if code != impl.ErrNone || sumsCode != impl.ErrNone || depthCode != impl.ErrNone || depth == 1 || !isStill(sums) {
			t.Errorf("the commutator of %v and %v is %v, with the depth %d and the sums %v", v, w, commutator, depth, sums)
		}
		held++
		if depth >= 2 {
			deep++
		}
	})
	checkHeld(t, held)
	checkHeld(t, deep)
}

// The leading part of a commutator, if not deeper than it has to be, is that of the leading parts.
func TestLeadingPartsOfCommutatorsAreCommutators(t *testing.T) {
	held := 0
	eachWordPair(25, func(d int64, n int64, v []int64, w []int64) {
		commutator, code := impl.CommutatorWord(d, v, w)
		if code == impl.ErrLimit {
			return
		}
		var c calls
		bracket := c.of(impl.CommutatorOf(c.of(impl.LeadingPart(d, n, v)), c.of(impl.LeadingPart(d, n, w))))
		if len(bracket.Terms) == 0 {
			return
		}
		if c.checkEqual(t, "the commutator of words", c.of(impl.LeadingPart(d, n, c.ofNumbers(commutator, code))), bracket) {
			held++
		}
	})
	checkHeld(t, held)
}

func TestReducedWordsAreFoundFromSignatures(t *testing.T) {
	eachShape(func(d int64, n int64) {
		for i, word := range reducedUpTo(d, n) {
			// Of the longest words, which are many, some are enough.
			if len(word) >= 4 && i%4 != 0 {
				continue
			}
			x, code := impl.SignatureOfWord(d, n, word)
			if code != impl.ErrNone {
				t.Errorf("SignatureOfWord(%d, %d, %v): code %d", d, n, word, code)
			}
			got, code := impl.WordOfSignature(x)
			checkNumbers(t, "WordOfSignature", got, code, word)
		}
	})
}

// Words that are not reduced are found as their reduced words.
func TestWordsAreFoundReduced(t *testing.T) {
	held := 0
	eachWordSample(26, 10, func(d int64, n int64, word []int64) {
		var c calls
		reduced := c.ofNumbers(impl.ReduceWord(d, word))
		if int64(len(reduced)) > n {
			return
		}
		got, code := impl.WordOfSignature(c.of(impl.SignatureOfWord(d, n, word)))
		checkNumbers(t, "WordOfSignature", got, code, reduced)
		held++
	})
	checkHeld(t, held)
}

func TestLeadingPartsAreLieSeries(t *testing.T) {
	byDepth := map[int64]int{}
	eachWordSample(27, 8, func(d int64, n int64, word []int64) {
		var c calls
		part := c.of(impl.LeadingPart(d, n, word))
		if is, code := impl.IsLieSeries(part); !is || code != impl.ErrNone {
			t.Errorf("IsLieSeries of the leading part of %v = %v, %d", word, is, code)
		}
		depth, code := impl.DepthOfWord(d, n, word)
		for _, term := range part.Terms {
			if int64(len(term.Word)) != depth || term.Value.Den != 1 || code != impl.ErrNone {
				t.Errorf("the leading part of %v has %v at %q, and its depth is %d, %d", word, term.Value, term.Word, depth, code)
			}
		}
		// Logarithms begin as signatures less the unit do.
		logarithm := c.of(impl.LogarithmOf(c.of(impl.SignatureOfWord(d, n, word))))
		c.checkEqual(t, "the leading part", part, c.of(impl.PartOf(logarithm, depth)))
		if c.code != impl.ErrNone || (depth == 0) != (len(part.Terms) == 0) {
			t.Errorf("the leading part of %v is %v, with the depth %d, %d", word, part, depth, c.code)
		}
		byDepth[depth]++
	})
	for depth := range int64(4) {
		if byDepth[depth] < 5 {
			t.Errorf("only %d words have the depth %d", byDepth[depth], depth)
		}
	}
}

// Letter sums are the leading part of the depth 1.
func TestLetterSumsAreValuesAtLetters(t *testing.T) {
	eachWordSample(28, 6, func(d int64, n int64, word []int64) {
		x, code := impl.SignatureOfWord(d, n, word)
		sums, sumsCode := impl.LetterSums(d, word)
		if code != impl.ErrNone || sumsCode != impl.ErrNone || int64(len(sums)) != d {
			t.Fatalf("for %v there are %v, %d, and %v, %d", word, x, code, sums, sumsCode)
		}
		for i, sum := range sums {
			if a := coefficientIn(x, string(rune('0'+i))); a != fr(sum, 1) {
				t.Errorf("the signature of %v has %v at %d, and the letter sum is %d", word, a, i, sum)
			}
		}
	})
}

// Group words that are told equal are those whose signatures do not differ at a high level.
func TestEqualWordsHaveEqualSignatures(t *testing.T) {
	equal, different := 0, 0
	eachWordPair(29, func(d int64, n int64, v []int64, w []int64) {
		var c calls
		x, y := c.of(impl.SignatureOfWord(d, n, v)), c.of(impl.SignatureOfWord(d, n, w))
		are, code := impl.AreEqualInGroup(d, v, w)
		if c.code != impl.ErrNone || code != impl.ErrNone || are && !sameSeries(x, y) {
			t.Errorf("AreEqualInGroup(%d, %v, %v) = %v, %d, %d", d, v, w, are, code, c.code)
		}
		if are {
			equal++
		} else if !sameSeries(x, y) {
			different++
		}
	})
	if min(equal, different) < 10 {
		t.Errorf("only %d words are equal, and %d are not", equal, different)
	}
}
