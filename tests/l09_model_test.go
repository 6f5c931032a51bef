package tests

import (
	"math/rand/v2"
	"slices"
	"strings"
	"testing"

	"loop.example/g01260/impl"
)

// randomWord returns a group word of a length, in which neighbours are often opposite.
func randomWord(r *rand.Rand, d int64, length int) []int64 {
	var word []int64
	for len(word) < length {
		number := r.Int64N(d) + 1
		if r.IntN(2) == 0 {
			number = -number
		}
		if len(word) > 0 && r.IntN(6) == 0 {
			number = -word[len(word)-1]
		}
		word = append(word, number)
	}
	return nestedWord(r, word)
}

// straightWord returns a reduced word of a length.
func straightWord(r *rand.Rand, d int64, length int) []int64 {
	var word []int64
	for len(word) < length {
		word = reducedAtRandom(r, slices.Concat(word, randomWord(r, d, 1)))
	}
	return word
}

// nestedWord returns a word of the same length, in which the inverse of a part may stand right behind it.
func nestedWord(r *rand.Rand, word []int64) []int64 {
	if r.IntN(3) > 0 || len(word) < 2 {
		return word
	}
	half := len(word) / 2
	copied := slices.Clone(word)
	for i := range r.IntN(half + 1) {
		copied[half+i] = -copied[half-1-i]
	}
	return copied
}

// reducedAtRandom returns the reduced word, one pair of opposite neighbours after the other being left out at
// places by chance.
func reducedAtRandom(r *rand.Rand, word []int64) []int64 {
	for {
		var places []int
		for i := 1; i < len(word); i++ {
			if word[i] == -word[i-1] {
				places = append(places, i-1)
			}
		}
		if len(places) == 0 {
			return word
		}
		at := places[r.IntN(len(places))]
		word = slices.Concat(word[:at], word[at+2:])
	}
}

// inverseNumbers returns the inverse.
func inverseNumbers(word []int64) []int64 {
	var inverse []int64
	for _, number := range word {
		inverse = append([]int64{-number}, inverse...)
	}
	return inverse
}

// unitPath returns the path of a group word.
func unitPath(d int64, word []int64) path {
	var p path
	for _, number := range word {
		step := flatStep(d, 0)
		for i := range step {
			if number == int64(i)+1 {
				step[i]++
			}
			if number == -int64(i)-1 {
				step[i]--
			}
		}
		p = append(p, step)
	}
	return p
}

// textOfNumbers returns the text of a group word.
func textOfNumbers(word []int64) string {
	var text strings.Builder
	for _, number := range word {
		text.WriteByte("CBA?abc"[number+3])
	}
	return text.String()
}

// wordTally counts how results of a function came out.
type wordTally struct{ fit, tooLong int }

// check compares a result with numbers, which may be too many.
func (c *wordTally) check(t *testing.T, name string, got []int64, code int64, want []int64) {
	t.Helper()
	if len(want) > impl.MaxGroup {
		c.tooLong++
		checkNumbersError(t, name, got, code, impl.ErrLimit)
		return
	}
	c.fit++
	checkNumbers(t, name, got, code, want)
}

func TestPlainFunctionsOfGroupWordsFollowTheModel(t *testing.T) {
	r := rand.New(rand.NewPCG(9, 1))
	shorter := 0
	for range 4000 {
		d := r.Int64N(impl.MaxLetter) + 1
		word := randomWord(r, d, r.IntN(impl.MaxGroup+1))
		reduced, code := impl.ReduceWord(d, word)
		checkNumbers(t, "ReduceWord", reduced, code, reducedAtRandom(r, word))
		inverse, code := impl.InverseWord(d, word)
		checkNumbers(t, "InverseWord", inverse, code, inverseNumbers(word))
		steps, code := impl.PathOfWord(d, word)
		checkPath(t, "PathOfWord", steps, code, unitPath(d, word))
		sums, code := impl.LetterSums(d, word)
		checkNumbers(t, "LetterSums", sums, code, corners(d, unitPath(d, word))[len(word)])
		text, code := impl.GroupText(d, word)
		checkWord(t, "GroupText", text, code, textOfNumbers(word))
		parsed, code := impl.ParseGroup(d, textOfNumbers(word))
		checkNumbers(t, "ParseGroup", parsed, code, word)
		if len(reduced) < len(word) {
			shorter++
		}
	}
	if shorter < 1000 {
		t.Errorf("only %d words are not reduced", shorter)
	}
}

func TestProductsOfGroupWordsFollowTheModel(t *testing.T) {
	r := rand.New(rand.NewPCG(9, 2))
	var products, commutators wordTally
	for range 4000 {
		d := r.Int64N(impl.MaxLetter) + 1
		v, w := randomWord(r, d, r.IntN(impl.MaxGroup+1)), randomWord(r, d, r.IntN(impl.MaxGroup+1))
		if r.IntN(2) == 0 {
			v, w = straightWord(r, d, 3+r.IntN(10)), straightWord(r, d, r.IntN(impl.MaxGroup+1))
		}
		got, code := impl.MultiplyWords(d, v, w)
		products.check(t, "MultiplyWords", got, code, reducedAtRandom(r, slices.Concat(v, w)))
		got, code = impl.CommutatorWord(d, v, w)
		commutators.check(t, "CommutatorWord", got, code, reducedAtRandom(r, slices.Concat(inverseNumbers(v), inverseNumbers(w), v, w)))
	}
	for name, c := range map[string]wordTally{"MultiplyWords": products, "CommutatorWord": commutators} {
		if min(c.fit, c.tooLong) < 200 {
			t.Errorf("%s: only %d results fit, and %d do not", name, c.fit, c.tooLong)
		}
	}
}

func TestEqualWordsFollowTheModel(t *testing.T) {
	r := rand.New(rand.NewPCG(9, 3))
	equal, different := 0, 0
	for range 4000 {
		d := r.Int64N(impl.MaxLetter) + 1
		v := randomWord(r, d, r.IntN(impl.MaxGroup+1))
		for _, w := range [][]int64{randomWord(r, d, r.IntN(impl.MaxGroup+1)), reducedAtRandom(r, v), inverseNumbers(v), detourOf(r, d, v), nil} {
			want := slices.Equal(reducedAtRandom(r, v), reducedAtRandom(r, w))
			if got, code := impl.AreEqualInGroup(d, v, w); got != want || code != impl.ErrNone {
				t.Errorf("AreEqualInGroup(%d, %v, %v) = %v, %d", d, v, w, got, code)
			}
			if want {
				equal++
			} else {
				different++
			}
		}
	}
	if min(equal, different) < 1000 {
		t.Errorf("only %d words are equal, and %d are not", equal, different)
	}
}

// detourOf returns a word with two neighbours that are opposite put in, if there is room for them.
func detourOf(r *rand.Rand, d int64, word []int64) []int64 {
	if len(word)+2 > impl.MaxGroup {
		return word
	}
	number, at := r.Int64N(d)+1, r.IntN(len(word)+1)
	return slices.Concat(word[:at], []int64{number, -number}, word[at:])
}

// All words of few numbers, and not only some by chance.
func TestReductionsOfAllShortWords(t *testing.T) {
	r := rand.New(rand.NewPCG(9, 4))
	for d, n := range map[int64]int{1: 12, 2: 6, 3: 4} {
		for _, text := range textsOfGroup(d, n) {
			word := numbersOf(text)
			got, code := impl.ReduceWord(d, word)
			checkNumbers(t, "ReduceWord "+text, got, code, reducedAtRandom(r, word))
		}
	}
}

// leading returns the depth of a model, and the model of its leading part.
func (m model) leading() (int64, model) {
	depth := int64(0)
	part := emptyModel(m.d, m.n)
	for _, w := range allWords(m.d, m.n)[1:] {
		if m.at[w].Sign() != 0 && (depth == 0 || int64(len(w)) == depth) {
			depth = int64(len(w))
			part.at[w].Set(m.at[w])
		}
	}
	return depth, part
}

// deepWords are group words of depths of 2 and 3.
var deepWords = []string{"abAB", "aBAbcC", "BAbABaba", "abABaBAb", "cBAbABabaC", "aaabbbAAABBB", "BAbAcCBaba"}

// eachWordSample calls a function for group words of all shapes, the longest ones, and deep ones among them.
func eachWordSample(seed uint64, times int, do func(d int64, n int64, word []int64)) {
	r := rand.New(rand.NewPCG(9, seed))
	eachShape(func(d int64, n int64) {
		for range times {
			do(d, n, randomWord(r, d, r.IntN(impl.MaxGroup+1)))
			do(d, n, randomWord(r, d, r.IntN(6)))
		}
		for number := -d; number <= d; number++ {
			if number != 0 {
				do(d, n, slices.Repeat([]int64{number}, impl.MaxGroup))
			}
		}
		for _, text := range deepWords {
			if lettersOf(text) <= d {
				do(d, n, numbersOf(text))
			}
		}
	})
}

// All fractions of signatures of group words fit, also on the way.
func TestSignaturesOfWordsFollowTheModel(t *testing.T) {
	var c tally
	depths := map[int64]int{}
	eachWordSample(5, 8, func(d int64, n int64, word []int64) {
		want := signatureModel(d, n, unitPath(d, word))
		x, code := impl.SignatureOfWord(d, n, word)
		c.check(t, "SignatureOfWord", x, code, want)
		depth, part := want.leading()
		if got, code := impl.DepthOfWord(d, n, word); got != depth || code != impl.ErrNone {
			t.Errorf("DepthOfWord(%d, %d, %v) = %d, %d, want %d", d, n, word, got, code, depth)
		}
		x, code = impl.LeadingPart(d, n, word)
		c.check(t, "LeadingPart", x, code, part)
		depths[depth]++
	})
	if c.tooLarge+c.onTheWay > 0 || c.fit < 400 {
		t.Errorf("%d signatures and leading parts fit, and %d do not", c.fit, c.tooLarge+c.onTheWay)
	}
	for depth := range int64(4) {
		if depths[depth] < 5 {
			t.Errorf("only %d words have the depth %d", depths[depth], depth)
		}
	}
}

// Words that are longer than the level, and any words, are found as the first ones with their signatures.
func TestWordsOfSignaturesFollowTheModel(t *testing.T) {
	firsts := map[string][]int64{}
	textOf := func(d int64, n int64, p path) string {
		x, _ := impl.SignatureOf(d, n, p)
		text, _ := impl.SeriesText(x)
		return string(rune('0'+d)) + string(rune('0'+n)) + " " + text
	}
	eachShape(func(d int64, n int64) {
		words := reducedUpTo(d, n)
		slices.Reverse(words)
		for _, word := range words {
			firsts[textOf(d, n, unitPath(d, word))] = word
		}
	})
	found, notFound := 0, 0
	eachWordSample(6, 12, func(d int64, n int64, word []int64) {
		x, _ := impl.SignatureOfWord(d, n, word)
		got, code := impl.WordOfSignature(x)
		if want, isThere := firsts[textOf(d, n, unitPath(d, word))]; isThere {
			found++
			checkNumbers(t, "WordOfSignature", got, code, want)
			return
		}
		notFound++
		checkNumbersError(t, "WordOfSignature", got, code, impl.ErrNotFound)
	})
	if min(found, notFound) < 100 {
		t.Errorf("only %d words are found, and %d are not", found, notFound)
	}
}
