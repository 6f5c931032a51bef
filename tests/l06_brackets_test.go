package tests

import (
	"math/big"
	"testing"

	"loop.example/g01260/impl"
)

// wordCase is a function of a word with its result as a text.
type wordCase struct {
	d, n    int64
	w, want string
}

// bracketFunctions are those of a word with letters and a level.
var bracketFunctions = map[string]func(d int64, n int64, w string) (impl.Series, int64){
	"BracketOf":   impl.BracketOf,
	"LeftBracket": impl.LeftBracket,
}

// checkBrackets compares what a function makes of words with texts.
func checkBrackets(t *testing.T, name string, cases []wordCase) {
	t.Helper()
	for _, c := range cases {
		x, code := bracketFunctions[name](c.d, c.n, c.w)
		checkSeries(t, name+" "+c.w, x, code, c.d, c.n, c.want)
	}
}

func TestBracketOf(t *testing.T) {
	checkBrackets(t, "BracketOf", []wordCase{
		{1, 1, "0", "1/1*0"}, {1, 5, "0", "1/1*0"}, {2, 1, "0", "1/1*0"}, {2, 1, "1", "1/1*1"}, {2, 5, "1", "1/1*1"},
		{3, 1, "2", "1/1*2"}, {3, 4, "2", "1/1*2"},
		{2, 2, "01", "1/1*01+-1/1*10"}, {2, 5, "01", "1/1*01+-1/1*10"},
		{3, 2, "02", "1/1*02+-1/1*20"}, {3, 4, "12", "1/1*12+-1/1*21"},
		{2, 3, "001", "1/1*001+-2/1*010+1/1*100"}, {2, 3, "011", "1/1*011+-2/1*101+1/1*110"},
		{3, 3, "012", "1/1*012+-1/1*021+-1/1*120+1/1*210"}, {3, 3, "021", "1/1*021+-1/1*102+1/1*120+-1/1*201"},
		{2, 4, "0001", "1/1*0001+-3/1*0010+3/1*0100+-1/1*1000"},
		{2, 4, "0011", "1/1*0011+-2/1*0101+2/1*1010+-1/1*1100"},
		{2, 4, "0111", "1/1*0111+-3/1*1011+3/1*1101+-1/1*1110"},
		{3, 4, "0102", "1/1*0102+-1/1*0120+-1/1*0201+1/1*0210+-1/1*1002+1/1*1020+1/1*2001+-1/1*2010"},
		{3, 4, "0211", "1/1*0211+-2/1*1021+1/1*1102+-1/1*1120+2/1*1201+-1/1*2011"},
		{2, 5, "00001", "1/1*00001+-4/1*00010+6/1*00100+-4/1*01000+1/1*10000"},
		{2, 5, "00101", "1/1*00101+-1/1*00110+-3/1*01001+4/1*01010+-1/1*01100+2/1*10001+-3/1*10010+1/1*10100"},
		{2, 5, "01011", "1/1*01011+-3/1*01101+2/1*01110+-1/1*10011+4/1*10101+-3/1*10110+-1/1*11001+1/1*11010"},
	})
}

func TestLeftBracket(t *testing.T) {
	checkBrackets(t, "LeftBracket", []wordCase{
		{1, 1, "", "0"}, {2, 5, "", "0"}, {3, 4, "", "0"},
		{1, 1, "0", "1/1*0"}, {2, 1, "1", "1/1*1"}, {2, 5, "1", "1/1*1"}, {3, 4, "2", "1/1*2"},
		{2, 2, "01", "1/1*01+-1/1*10"}, {2, 5, "01", "1/1*01+-1/1*10"}, {2, 2, "10", "-1/1*01+1/1*10"},
		{1, 2, "00", "0"}, {2, 2, "11", "0"}, {1, 5, "00000", "0"}, {3, 4, "2222", "0"},
		{2, 3, "001", "0"}, {2, 3, "110", "0"}, {2, 5, "00101", "0"},
		{2, 3, "010", "-1/1*001+2/1*010+-1/1*100"}, {2, 3, "100", "1/1*001+-2/1*010+1/1*100"},
		{2, 3, "011", "1/1*011+-2/1*101+1/1*110"},
		{3, 3, "012", "1/1*012+-1/1*102+-1/1*201+1/1*210"}, {3, 3, "210", "1/1*012+-1/1*021+-1/1*120+1/1*210"},
		{2, 4, "0101", "-1/1*0011+2/1*0101+-2/1*1010+1/1*1100"}, {2, 4, "1001", "1/1*0011+-2/1*0101+2/1*1010+-1/1*1100"},
		{3, 4, "0120", "-1/1*0012+1/1*0102+1/1*0120+1/1*0201+-1/1*0210+-1/1*1020+-1/1*2010+1/1*2100"},
		{2, 5, "01000", "-1/1*00001+4/1*00010+-6/1*00100+4/1*01000+-1/1*10000"},
		{2, 5, "01011", "-1/1*00111+2/1*01011+1/1*10011+-4/1*10101+1/1*11001+2/1*11010+-1/1*11100"},
	})
}

// expanded returns how many times each word is in a bracket of a word with letters, if the word and
// its parts are cut at a place.
func expanded(w string, place func(w string) int) map[string]int64 {
	if len(w) == 1 {
		return map[string]int64{w: 1}
	}
	i := place(w)
	sum := map[string]int64{}
	for u, a := range expanded(w[:i], place) {
		for v, b := range expanded(w[i:], place) {
			sum[u+v] += a * b
			sum[v+u] -= a * b
		}
	}
	return sum
}

// longestLyndonEnd returns where the longest proper end that is a Lyndon word begins.
func longestLyndonEnd(w string) int {
	i := 1
	for !isLessThanEnds(w[i:]) {
		i++
	}
	return i
}

// lastLetter returns where the last letter stands.
func lastLetter(w string) int {
	return len(w) - 1
}

// expandedModel returns the model of a bracket of a word, which is 0 for the empty one.
func expandedModel(d int64, n int64, w string, place func(w string) int) model {
	m := emptyModel(d, n)
	if w != "" {
		for u, number := range expanded(w, place) {
			m.at[u] = big.NewRat(number, 1)
		}
	}
	return m
}

// lyndonModel returns the model of the bracket of a Lyndon word.
func lyndonModel(d int64, n int64, w string) model {
	return expandedModel(d, n, w, longestLyndonEnd)
}

// leftModel returns the model of the left bracket of a word.
func leftModel(d int64, n int64, w string) model {
	return expandedModel(d, n, w, lastLetter)
}

func TestBracketsOfAllWords(t *testing.T) {
	eachShape(func(d int64, n int64) {
		for _, w := range allWords(d, n) {
			x, code := impl.BracketOf(d, n, w)
			if !isLeastTurn(w) {
				checkSeriesError(t, "BracketOf "+w, x, code, impl.ErrState)
				continue
			}
			var c tally
			c.check(t, "BracketOf "+w, x, code, lyndonModel(d, n, w))
			if c.fit != 1 {
				t.Errorf("BracketOf(%d, %d, %q) does not fit", d, n, w)
			}
		}
	})
}

func TestLeftBracketsOfAllWords(t *testing.T) {
	eachShape(func(d int64, n int64) {
		for _, w := range allWords(d, n) {
			x, code := impl.LeftBracket(d, n, w)
			var c tally
			c.check(t, "LeftBracket "+w, x, code, leftModel(d, n, w))
			if c.fit != 1 {
				t.Errorf("LeftBracket(%d, %d, %q) does not fit", d, n, w)
			}
		}
	})
}

func TestBracketsBeginWithTheWord(t *testing.T) {
	eachShape(func(d int64, n int64) {
		for _, w := range lyndonTexts(d, n) {
			x, code := impl.BracketOf(d, n, w)
			if code != impl.ErrNone || len(x.Terms) == 0 || x.Terms[0] != (impl.Term{Word: w, Value: fr(1, 1)}) {
				t.Errorf("BracketOf(%d, %d, %q) = %v, %d", d, n, w, x, code)
			}
			for _, term := range x.Terms {
				if len(term.Word) != len(w) {
					t.Errorf("BracketOf(%d, %d, %q) has a value at %q", d, n, w, term.Word)
				}
			}
		}
	})
}
